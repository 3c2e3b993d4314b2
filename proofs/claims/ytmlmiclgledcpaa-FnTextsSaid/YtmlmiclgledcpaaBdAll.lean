/- Builders in the laws and in the draws: eleven texts in one. -/
import Derived.Test.YtmlmiclgledcpaaRawL
import Derived.Test.YtmlmiclgledcpaaTagP
import Derived.Lib.SmallJoins
import Derived.Deep.Slices
import Derived.ShutString
import Derived.ChangeOld
import Derived.Carry
import Derived.Test.YtmlmiclgledcpaaRowOf
import Derived.Test.YtmlmiclgledcpaaOwn
import Derived.Test.YtmlmiclgledcpaaNd
import Derived.Test.YtmlmiclgledcpaaDpTok
import Derived.Shelf.SlSortCmp.QuietGrown
import Derived.Test.YtmlmiclgledcpaaAddL
import Derived.Test.YtmlmiclgledcpaaLawT
import Derived.Test.YtmlmiclgledcpaaDrawK
namespace Go.Proofs.Ytmlmiclgledcpaa
/- Bl -/
open Go.ChangeShapes Go.WideShapes Go.ChangeAt Go.RowKit

theorem bl_tr {w X w' : World} (h : Below w.heap.size w X) (k : Below X.heap.size X w') : Below w.heap.size w w' := h.trans (k.mono h.size)
theorem bl_via {B : Nat} {w0 w X : World} (h : Below B w0 w) (hB : B ≤ w.heap.size) (k : Below w.heap.size w X) : Below B w0 X := h.trans (k.mono hB)
theorem bl_dw {B : Nat} {w w' : World} (h : Below B w w') : Below B w w'.drew := h.drew
theorem bl_aw {w w' : World} (h : Below w.heap.size w w') (o : Obj) : Below w.heap.size w (w'.alloc o) := h.alloc h.size o
theorem hq_dr {w : World} {g : Nat} {o : Obj} (h : w.heap[g]? = some o) : w.drew.heap[g]? = some o := h
theorem hq_nw {w : World} {g : Nat} {o : Obj} (h : w.heap.size = g) : (w.alloc o).heap[g]? = some o := by subst h; exact (MapKept.heap_alloc w o).1

/- RowT -/
open Go.ChangeShapes Go.WideShapes Go.ChangeAt Go.RowKit Go.Joins Go.Deep

theorem add_lit (g off j : Nat) : (⟨g, off, none⟩ : Addr).add j = ⟨g, off + j, none⟩ := by
  unfold Addr.add
  split
  · rename_i h4; subst h4; rfl
  · rfl
theorem mapM_at {f : Nat → Option Value} : ∀ {l : List Nat} {cs : List Value}, l.mapM f = some cs → cs.length = l.length ∧ ∀ i j : Nat, l[i]? = some j → f j = cs[i]?
  | [], cs, h => by
    have : cs = [] := by simpa using h.symm
    subst this
    exact ⟨rfl, fun i j h => by simp at h⟩
  | a :: l, cs, h => by
    rw [List.mapM_cons] at h
    obtain ⟨v, hv, h⟩ := Option.bind_eq_some_iff.1 h
    obtain ⟨vs, hvs, h⟩ := Option.bind_eq_some_iff.1 h
    have : cs = v :: vs := by simpa using h.symm
    subst this
    obtain ⟨k1, k2⟩ := mapM_at hvs
    refine ⟨by simp [k1], fun i j hj => ?_⟩
    cases i with
    | zero =>
      have : a = j := by simpa using hj
      subst this
      simpa using hv
    | succ i => simpa using k2 i j (by simpa using hj)
theorem cells?_at {w : World} {base n : Nat} {a : Addr} {cs : List Value} (h : w.cells? base a n = some cs) : cs.length = n ∧ ∀ i, i < n → w.cell? (a.add i) = cs[i]? := by
  unfold World.cells? at h
  split at h
  · obtain ⟨k1, k2⟩ := mapM_at h
    rw [List.length_range] at k1
    exact ⟨k1, fun i hi => k2 i i (by rw [List.getElem?_range hi])⟩
  · cases h

/-- The strings of an attribute are no longer than a string may be. -/
def AtOk (a : At) : Prop := a.1.size ≤ 9223372036854775807 ∧ a.2.size ≤ 9223372036854775807
theorem atCells_small {ats : List At} (h : ∀ a ∈ ats, AtOk a) : SmallL (atCells ats) := by
  induction ats with
  | nil => rw [atCells, SmallL]; trivial
  | cons a ats ih =>
    rw [atCells, SmallL, SmallL, Rw.Small, Rw.Small]
    exact ⟨(h a List.mem_cons_self).1, (h a List.mem_cons_self).2, ih fun b hb => h b (List.mem_cons_of_mem _ hb)⟩
theorem rwA_small {v : Value} {ats : List At} (h : ∀ a ∈ ats, AtOk a) : (rwA v ats).Small := by rw [rwA, Rw.Small]; exact atCells_small h
/-- A slice of attributes that came in. -/
def IsAts (w : World) (a : Option Addr) (len cap : Nat) (xs : List At) : Prop :=
  ReadsK encA 2 w.heap.size w (.slice a len cap) xs ∧ xs.length = len ∧ ∀ x ∈ xs, AtOk x

theorem attrs_of {H : Type} {enc : TypeId × Value → H} {W : World} {a : Option Addr} {len cap : Nat} {d : DataW H} {p : List MemPlace} (h : DataW.Trod enc Try.prog W 0 (fun _ => true) true 155 (.slice a len cap) d p) :
    ∃ xs, IsAts W a len cap xs := by
  obtain ⟨fuel, hf⟩ := h
  rcases open_slice Try.underlying155 hf with ⟨hcs, _⟩ | ⟨x, l, c, m, n, D, Pl, hcs, _, hl, hc, hm, _, hel⟩
  · simp [Value.cells] at hcs
    obtain ⟨rfl, rfl, rfl⟩ := hcs
    exact ⟨[], ⟨none, 0, rfl, Nat.le_refl _, by omega, (fun _ => rfl), Or.inl rfl⟩, rfl, by simp⟩
  · simp [Value.cells] at hcs
    obtain ⟨rfl, rfl, rfl⟩ := hcs
    simp only [if_true] at hm
    subst hm
    have hC : Try.prog.cellsOf 185 = 2 := by kernel_rfl
    rw [hC] at hel
    have hstr : Try.prog.cellsOf 9 = 1 := by kernel_rfl
    have hx : ∀ i, i < len → ∃ y : At, W.cell? (x.add (i * 2)) = some (.string y.1) ∧ W.cell? (x.add (i * 2 + 1)) = some (.string y.2) ∧ AtOk y := by
      intro i hi
      obtain ⟨cs, h1, h2⟩ := hel i (by omega)
      obtain ⟨hlen, hat⟩ := cells?_at h1
      obtain ⟨y0, y1, n', _, _, t0, t1⟩ := trod_struct2 Try.underlying185 h2
      obtain ⟨s, e0, _, w0⟩ := DataW.trod_string Try.underlying9 t0
      obtain ⟨t, e1, _, w1⟩ := DataW.trod_string Try.underlying9 t1
      simp only [hstr] at e0 e1
      obtain ⟨c0, c1, rfl⟩ : ∃ c0 c1, cs = [c0, c1] := by
        rcases cs with _ | ⟨c0, _ | ⟨c1, _ | ⟨c2, cs⟩⟩⟩
        · cases hlen
        · cases hlen
        · exact ⟨c0, c1, rfl⟩
        · exact absurd (congrArg (fun n => n - 2) hlen) (by simp)
      simp at e0 e1
      have g0 := hat 0 (by omega)
      have g1 := hat 1 (by omega)
      rw [add_add] at g0 g1
      simp at g0 g1
      exact ⟨(s, t), by rw [g0, e0], by rw [g1, e1], w0, w1⟩
    obtain ⟨f, hf⟩ := choose_lt hx
    refine ⟨(List.range len).map f, ⟨some x, _, by rw [List.length_map, List.length_range], by simpa using hl, by unfold maxLen at hc; omega, (fun h => by cases h), ?_⟩, by simp, ?_⟩
    · by_cases h0 : len = 0
      · exact Or.inl (by simpa using h0)
      · obtain ⟨blk, off, spot⟩ := x
        have c0 := (hf 0 (by omega)).1
        have hspot : spot = none := by simpa [Addr.add] using World.cell?_spot c0
        subst hspot
        have hlt : blk < W.heap.size := by
          have := World.block_lt_of_cell? W _ c0
          rwa [add_lit] at this
        refine Or.inr ⟨blk, off, rfl, hlt, fun j y hj i hi' => ?_⟩
        have hjl : j < len := by have := (List.getElem?_eq_some_iff.1 hj).1; simpa using this
        simp [hjl] at hj
        subst hj
        obtain ⟨g0, g1, _⟩ := hf j hjl
        rw [add_lit] at g0 g1
        rcases (show i = 0 ∨ i = 1 by omega) with rfl | rfl
        · rw [Nat.add_zero]; exact g0
        · rw [Nat.add_assoc]; exact g1
    · intro y hy
      obtain ⟨i, hi, rfl⟩ := List.mem_map.1 hy
      exact (hf i (List.mem_range.1 hi)).2.2

theorem array1 {α : Type} {cs : Array α} (h : cs.size = 1) : ∃ c0, cs = #[c0] := by
  obtain ⟨l⟩ := cs
  match l, h with
  | [c0], _ => exact ⟨c0, rfl⟩
set_option maxRecDepth 100000 in
theorem open_agg1 {P : Program} {H : Type} {enc : TypeId × Value → H} {w : World} {base : Nat} {spare : Nat → Bool} {held : Bool} {r : Reach} {b0 : Nat} {t : TypeId} {f0 : Field} {v : Value} {d : DataW H} {p : List MemPlace} (hs : P.underlying t = some (.struct #[f0])) (hone : oneCellFields P #[f0] = true) (hC : P.cellsOf t = 1)
    (hv : Value.okWide P w r b0 t v) (h : DataW.Trod enc P w base spare held t v d p) :
    ∃ (v0 : Value) (y0 : DataW H × List MemPlace) (n : Nat), v = .agg #[v0] ∧ d = .agg [y0.1] ∧ p = y0.2 ∧ DataW.trod enc P w base spare held n f0.type [v0] = some y0 := by
  obtain ⟨cs, rfl, hsz⟩ := okWide_struct hs hv
  obtain ⟨c0, rfl⟩ := array1 (hsz.trans hC)
  obtain ⟨fuel, hf⟩ := h
  obtain ⟨y0, n, hx, _, h0⟩ := trod_struct1 hs hf
  obtain ⟨o0, k0⟩ := hone_of hone 0 f0 rfl
  simp only [Prod.mk.injEq] at hx
  exact ⟨c0, y0, n, rfl, hx.1, hx.2, by simpa [Value.cells, o0, k0] using h0⟩

/- RowReads -/
open Go.ChangeShapes Go.WideShapes Go.ChangeAt Go.RowKit

theorem i64_range {n : Int} (h : (Lit.int .i64 n).wf = true) : -9223372036854775808 ≤ n ∧ n ≤ 9223372036854775807 := int_range h
theorem reads_of_row {k : IntKind} {w : World} {a : Option Addr} {len cap : Nat} {zs : List Int} (h : IsRow k w a len cap zs) :
    Reads k w.heap.size w (.slice a len cap) (zs.take len) ∧ (zs.take len).length = len ∧ ∀ n ∈ zs.take len, (Lit.int k n).wf = true := by
  rcases h with ⟨rfl, rfl, rfl, rfl⟩ | ⟨x, rfl, hlc, hm, hz, hcell, hwz⟩
  · exact ⟨⟨none, 0, rfl, by simp, by omega, (fun _ => rfl), Or.inl rfl⟩, rfl, by simp⟩
  · have hl : (zs.take len).length = len := by rw [List.length_take]; omega
    refine ⟨⟨some x, cap, by rw [hl], by omega, by unfold maxLen at hm; omega, (fun h => by cases h), ?_⟩, hl, fun n hn => hwz n (List.mem_of_mem_take hn)⟩
    rw [hl]
    by_cases h0 : len = 0
    · exact Or.inl h0
    · obtain ⟨blk, off, spot⟩ := x
      have c0 := hcell 0 (by omega)
      have hspot : spot = none := by simpa [Addr.add] using World.cell?_spot c0
      subst hspot
      have hlt : blk < w.heap.size := by
        rcases Nat.lt_or_ge blk w.heap.size with h1 | h1
        · exact h1
        · have h2 : w.heap[blk]? = none := Array.getElem?_eq_none h1
          simp [World.cell?, Addr.add, h2] at c0
      refine Or.inr ⟨blk, off, rfl, hlt, fun j hj => ?_⟩
      have h3 := hcell j (by omega)
      have e : (⟨blk, off, none⟩ : Addr).add j = ⟨blk, off + j, none⟩ := by
        unfold Addr.add
        split
        · rename_i h4; subst h4; rfl
        · rfl
      rw [e] at h3
      rw [h3]
      have e2 : (zs.take len).getD j 0 = zs.getD j 0 := by simp [List.getD_eq_getElem?_getD, hj]
      rw [e2]
theorem bytes_of_wf {zs : List Int} (h : ∀ n ∈ zs, (Lit.int .u8 n).wf = true) : Bytes zs := fun n hn => u8_range (h n hn)
theorem ints_of_wf {zs : List Int} (h : ∀ n ∈ zs, (Lit.int .i64 n).wf = true) : Ints zs := fun n hn => int_range (h n hn)

/- RowN -/
open Go.ChangeShapes Go.WideShapes Go.ChangeAt Go.RowKit Go.Joins Go.Deep

theorem trod_struct4 {P : Program} {H : Type} {enc : TypeId × Value → H} {w : World} {base : Nat} {spare : Nat → Bool} {held : Bool} {t : TypeId} {f0 f1 f2 f3 : Field} {fuel : Nat} {cs : List Value} {x : DataW H × List MemPlace} (ht : P.underlying t = some (.struct #[f0, f1, f2, f3])) (h : DataW.trod enc P w base spare held fuel t cs = some x) :
    ∃ y0 y1 y2 y3 n, x = (.agg [y0.1, y1.1, y2.1, y3.1], y0.2 ++ (y1.2 ++ (y2.2 ++ y3.2))) ∧ cs.length = P.cellsOf t ∧ DataW.trod enc P w base spare held n f0.type ((cs.drop f0.offset).take (P.cellsOf f0.type)) = some y0 ∧
      DataW.trod enc P w base spare held n f1.type ((cs.drop f1.offset).take (P.cellsOf f1.type)) = some y1 ∧ DataW.trod enc P w base spare held n f2.type ((cs.drop f2.offset).take (P.cellsOf f2.type)) = some y2 ∧ DataW.trod enc P w base spare held n f3.type ((cs.drop f3.offset).take (P.cellsOf f3.type)) = some y3 := by
  obtain ⟨xs, n, _, rfl, hl, hlen, hf⟩ := DataW.trod_struct ht h
  match xs, hlen with
  | [y0, y1, y2, y3], _ => exact ⟨y0, y1, y2, y3, n, by simp, hl, by simpa using hf 0 f0 rfl, by simpa using hf 1 f1 rfl, by simpa using hf 2 f2 rfl, by simpa using hf 3 f3 rfl⟩
theorem four_of {cs : List Value} (h : cs.length = 4) : ∃ c0 c1 c2 c3, cs = [c0, c1, c2, c3] := by
  match cs, h with
  | [c0, c1, c2, c3], _ => exact ⟨c0, c1, c2, c3, rfl⟩
theorem slice_of {P : Program} {H : Type} {enc : TypeId × Value → H} {w : World} {base : Nat} {spare : Nat → Bool} {held : Bool} {t e : TypeId} {fuel : Nat} {v : Value} {x : DataW H × List MemPlace} (ht : P.underlying t = some (.slice e)) (h : DataW.trod enc P w base spare held fuel t [v] = some x) : ∃ a len cap, v = .slice a len cap := by
  rcases open_slice ht h with ⟨hcs, _⟩ | ⟨a, l, c, _, _, _, _, hcs, _⟩
  · exact ⟨none, 0, 0, by simpa using hcs⟩
  · exact ⟨some a, l, c, by simpa using hcs⟩

instance : Inhabited Nv := ⟨(⟨⟨#[]⟩, ⟨#[]⟩, 0, []⟩, svNil)⟩
instance : Inhabited Tv := ⟨(tokZero, svNil)⟩
def NdOk (x : Nd) : Prop := x.name.size ≤ 9223372036854775807 ∧ x.text.size ≤ 9223372036854775807 ∧ (∀ a ∈ x.attrs, AtOk a) ∧ -9223372036854775808 ≤ x.parent ∧ x.parent ≤ 9223372036854775807
/-- A slice of nodes that came in. -/
def IsNds (w : World) (v : Value) (ns : List Nv) : Prop := ReadN w.heap.size w v ns ∧ ∀ p ∈ ns, NdOk p.1
set_option maxRecDepth 100000 in
theorem nodes_of {H : Type} {enc : TypeId × Value → H} {W : World} {fuel : Nat} {v : Value} {d : DataW H × List MemPlace} (hf : DataW.trod enc Try.prog W 0 (fun _ => true) true fuel 57 [v] = some d) :
    ∃ ns, IsNds W v ns := by
  rcases open_slice Try.underlying57 hf with ⟨hcs, _⟩ | ⟨x, len, cap, m, n, D, Pl, hcs, _, hl, hc, hm, _, hel⟩
  · obtain rfl : v = .slice none 0 0 := by simpa using hcs
    exact ⟨[], ⟨⟨none, 0, rfl, Nat.le_refl _, by omega, (fun _ => rfl), Or.inl rfl⟩, by simp⟩, by simp⟩
  · obtain rfl : v = .slice (some x) len cap := by simpa using hcs
    simp only [if_true] at hm
    subst hm
    have hC : Try.prog.cellsOf 157 = 4 := by kernel_rfl
    rw [hC] at hel
    have hstr : Try.prog.cellsOf 9 = 1 := by kernel_rfl
    have hint : Try.prog.cellsOf 3 = 1 := by kernel_rfl
    have hsl : Try.prog.cellsOf 155 = 1 := by kernel_rfl
    have hx : ∀ i, i < len → ∃ p : Nv, W.cell? (x.add (i * 4)) = some (.string p.1.name) ∧ W.cell? (x.add (i * 4 + 1)) = some (.string p.1.text) ∧ W.cell? (x.add (i * 4 + 2)) = some (.int .i64 p.1.parent) ∧ W.cell? (x.add (i * 4 + 3)) = some (sv p.2) ∧ ReadsK encA 2 W.heap.size W (sv p.2) p.1.attrs ∧ NdOk p.1 := by
      intro i hi
      obtain ⟨cs, h1, h2⟩ := hel i (by omega)
      obtain ⟨hlen, hat⟩ := cells?_at h1
      obtain ⟨y0, y1, y2, y3, n', _, _, t0, t1, t2, t3⟩ := trod_struct4 Try.underlying157 h2
      obtain ⟨c0, c1, c2, c3, rfl⟩ := four_of hlen
      obtain ⟨s, e0, _, w0⟩ := DataW.trod_string Try.underlying9 t0
      obtain ⟨t, e1, _, w1⟩ := DataW.trod_string Try.underlying9 t1
      obtain ⟨k, e2, _, w2⟩ := DataW.trod_int Try.underlying3 t2
      simp [hstr, hint] at e0 e1 e2
      simp [hsl] at t3
      obtain ⟨aa, al, ac, rfl⟩ := slice_of Try.underlying155 t3
      obtain ⟨xs, hxs, _, hok⟩ := attrs_of (enc := enc) (W := W) (a := aa) (len := al) (cap := ac) (d := y3.1) (p := y3.2) ⟨n', t3⟩
      have g0 := hat 0 (by omega)
      have g1 := hat 1 (by omega)
      have g2 := hat 2 (by omega)
      have g3 := hat 3 (by omega)
      rw [add_add] at g0 g1 g2 g3
      simp at g0 g1 g2 g3
      have hk := i64_range w2
      exact ⟨(⟨s, t, k, xs⟩, (aa, al, ac)), by rw [g0, e0], by rw [g1, e1], by rw [g2, e2], g3, hxs, w0, w1, hok, hk.1, hk.2⟩
    obtain ⟨f, hf⟩ := choose_lt hx
    refine ⟨(List.range len).map f, ⟨⟨some x, _, by rw [List.length_map, List.length_range], by simpa using hl, by unfold maxLen at hc; omega, (fun h => by cases h), ?_⟩, fun p hp => ?_⟩, fun p hp => ?_⟩
    · by_cases h0 : len = 0
      · exact Or.inl (by simpa using h0)
      · obtain ⟨blk, off, spot⟩ := x
        have c0 := (hf 0 (by omega)).1
        have hspot : spot = none := by simpa [Addr.add] using World.cell?_spot c0
        subst hspot
        have hlt : blk < W.heap.size := by
          have := World.block_lt_of_cell? W _ c0
          rwa [add_lit] at this
        refine Or.inr ⟨blk, off, rfl, hlt, fun j y hj i hi' => ?_⟩
        have hjl : j < len := by have := (List.getElem?_eq_some_iff.1 hj).1; simpa using this
        simp [hjl] at hj
        subst hj
        obtain ⟨g0, g1, g2, g3, _⟩ := hf j hjl
        rw [add_lit] at g0 g1 g2 g3
        rcases (show i = 0 ∨ i = 1 ∨ i = 2 ∨ i = 3 by omega) with rfl | rfl | rfl | rfl
        · rw [Nat.add_zero]; exact g0
        · rw [Nat.add_assoc]; exact g1
        · rw [Nat.add_assoc]; exact g2
        · rw [Nat.add_assoc]; exact g3
    · obtain ⟨i, hi, rfl⟩ := List.mem_map.1 hp
      exact (hf i (List.mem_range.1 hi)).2.2.2.2.1
    · obtain ⟨i, hi, rfl⟩ := List.mem_map.1 hp
      exact (hf i (List.mem_range.1 hi)).2.2.2.2.2

def TkOk (x : Tok) : Prop := x.name.size ≤ 9223372036854775807 ∧ x.text.size ≤ 9223372036854775807 ∧ (∀ a ∈ x.attrs, AtOk a)
/-- A slice of tokens that came in. -/
def IsTks (w : World) (v : Value) (ns : List Tv) : Prop := ReadT w.heap.size w v ns ∧ ∀ p ∈ ns, TkOk p.1

theorem ndCells_small : ∀ {ns : List Nv}, (∀ p ∈ ns, NdOk p.1) → SmallL (ndCells ns)
  | [], _ => trivial
  | p :: ns, h => by
    have h1 := h p List.mem_cons_self
    rw [ndCells]
    refine smallL_iff.2 fun c hc => ?_
    rcases List.mem_cons.1 hc with e | hc
    · rw [e, Rw.Small]; exact h1.1
    rcases List.mem_cons.1 hc with e | hc
    · rw [e, Rw.Small]; exact h1.2.1
    rcases List.mem_cons.1 hc with e | hc
    · rw [e, Rw.Small]; exact Nat.zero_le _
    rcases List.mem_cons.1 hc with e | hc
    · rw [e]; exact rwA_small h1.2.2.1
    · exact smallL_iff.1 (ndCells_small fun q hq => h q (List.mem_cons_of_mem _ hq)) c hc
theorem rwN_small {v : Value} {ns : List Nv} (h : ∀ p ∈ ns, NdOk p.1) : (rwN v ns).Small := by rw [rwN, Rw.Small]; exact ndCells_small h
theorem tkCells_small : ∀ {ns : List Tv}, (∀ p ∈ ns, TkOk p.1) → SmallL (tkCells ns)
  | [], _ => trivial
  | p :: ns, h => by
    have h1 := h p List.mem_cons_self
    rw [tkCells]
    refine smallL_iff.2 fun c hc => ?_
    rcases List.mem_cons.1 hc with e | hc
    · rw [e, Rw.Small]; exact Nat.zero_le _
    rcases List.mem_cons.1 hc with e | hc
    · rw [e, Rw.Small]; exact h1.1
    rcases List.mem_cons.1 hc with e | hc
    · rw [e]; exact rwA_small h1.2.2
    rcases List.mem_cons.1 hc with e | hc
    · rw [e, Rw.Small]; exact h1.2.1
    · exact smallL_iff.1 (tkCells_small fun q hq => h q (List.mem_cons_of_mem _ hq)) c hc
theorem rwT_smallS {v : Value} {ns : List Tv} (h : ∀ p ∈ ns, TkOk p.1) : (rwT v ns).Small := by rw [rwT, Rw.Small]; exact tkCells_small h
theorem rwI_small (v : Value) (zs : List Int) : (rwI v zs).Small := by
  rw [rwI, Rw.Small]
  refine smallL_iff.2 fun c hc => ?_
  obtain ⟨z, rfl⟩ := intCells_leaf hc
  rw [Rw.Small]; exact Nat.zero_le _
/-- A builder that came in. -/
def IsBd (w : World) (nv ov : Value) (ns : List Nv) (zs : List Int) : Prop := IsNds w nv ns ∧ Reads .i64 w.heap.size w ov zs ∧ (∀ z ∈ zs, (Lit.int .i64 z).wf = true) ∧ (∃ a n c, nv = .slice a n c) ∧ ∃ a n c, ov = .slice a n c
set_option maxRecDepth 100000 in
theorem builder_of {H : Type} {enc : TypeId × Value → H} {W : World} {base : Nat} {v : Value} {d : DataW H} {p : List MemPlace} (hv : Value.okWide Try.prog W .any base 59 v) (h : DataW.Trod enc Try.prog W 0 (fun _ => true) true 59 v d p) :
    ∃ (nv ov : Value) (ns : List Nv) (zs : List Int), v = .agg #[nv, ov] ∧ IsBd W nv ov ns zs := by
  obtain ⟨v0, v1, y0, y1, n, rfl, _, _, h0, h1⟩ := open_agg2 Try.underlying59 (by kernel_rfl) (by kernel_rfl) hv h
  obtain ⟨a1, l1, c1, rfl⟩ := slice_of Try.underlying25 h1
  obtain ⟨a0, l0, c0, rfl⟩ := slice_of Try.underlying57 h0
  obtain ⟨ns, hns⟩ := nodes_of h0
  obtain ⟨zs, hz⟩ := row_of (k := .i64) Try.underlying25 Try.underlying3 (by kernel_rfl) (W := W) (a := a1) (len := l1) (cap := c1) (d := y1.1) (p := y1.2) ⟨n, h1⟩
  obtain ⟨r1, r2, r3⟩ := reads_of_row hz
  exact ⟨_, _, ns, zs.take l1, rfl, hns, r1, r3, ⟨a0, l0, c0, rfl⟩, ⟨a1, l1, c1, rfl⟩⟩

/- DpTokL -/
open Go.ChangeShapes Go.WideShapes Go.ChangeAt Go.RowKit

/- AddM -/
open Go.ChangeShapes Go.WideShapes Go.ChangeAt Go.RowKit

/-- How much tokens add. -/
def tkW : List Tok → Nat
  | [] => 0
  | t :: ts => 3 + 2 * t.attrs.length + tkW ts
theorem tkW_take : ∀ (ts : List Tok) (k : Nat), tkW (ts.take k) ≤ tkW ts
  | [], k => by rw [List.take_nil]; exact Nat.le_refl _
  | t :: ts, 0 => Nat.zero_le _
  | t :: ts, k + 1 => by
    have := tkW_take ts k
    rw [List.take_succ_cons, tkW, tkW]; omega
theorem tkW_at : ∀ {ts : List Tok} {t : Tok}, t ∈ ts → 3 + 2 * t.attrs.length ≤ tkW ts
  | [], t, h => by cases h
  | u :: ts, t, h => by
    rw [tkW]
    rcases List.mem_cons.1 h with e | h2
    · rw [e]; omega
    · have := tkW_at h2; omega
theorem addToks_W : ∀ (ts : List Tok) (b : Bd), ndW (addToks b ts).nodes ≤ ndW b.nodes + tkW ts
  | [], b => by rw [addToks, tkW]; omega
  | t :: ts, b => by
    have h := addToks_W ts (addTok b t).1
    have h2 := (addTok_W b t).1
    rw [addToks, tkW]; omega
theorem fits_take {b : Bd} {ts : List Tok} (h : ndW b.nodes + tkW ts ≤ 68719476736) (ho : b.opn.length ≤ 68719476736) (k : Nat) : Fits (addToks b (ts.take k)) := by
  have h1 := addToks_W (ts.take k) b
  have h2 := tkW_take ts k
  have h3 := (addToks_len (ts.take k) b).2
  exact ⟨by omega, by omega⟩
def AddsOut (b : Bd) (ts : List Tok) (w : World) (e : Ending) (w' : World) : Prop := ∃ nv ov, e = .returned (.agg #[nv, ov]) ∧ BdAt w.heap.size w w' nv ov (addToks b ts)
theorem tok_at {tvs : List Tv} {ts : List Tok} (h : tvs.map Prod.fst = ts) {k : Nat} {p : Tv} (hp : tvs[k]? = some p) : ts[k]? = some p.1 := by
  rw [← h, List.getElem?_map, hp]; rfl

set_option maxRecDepth 100000 in
set_option maxHeartbeats 8000000 in
theorem adds_impl (nv ov : Value) (b : Bd) (lv : Value) (tvs : List Tv) (ts : List Tok) (hts : tvs.map Prod.fst = ts) (w : World) (hb : BdIn w.heap.size w nv ov b) (hl : ReadT w.heap.size w lv tvs) (hf : ndW b.nodes + tkW ts ≤ 68719476736) (hfo : b.opn.length ≤ 68719476736) :
    Calls Try.prog 18 #[.agg #[nv, ov], lv] w (AddsOut b ts w) := by
  obtain ⟨la, lc, rfl, hl1, hl2⟩ := hl.form
  obtain ⟨n, hn⟩ : ∃ n, tvs.length = n := ⟨_, rfl⟩
  rw [hn] at hl hl1 ⊢
  have htl : ts.length = n := by rw [← hts, List.length_map, hn]
  obtain ⟨W0, hW0⟩ : ∃ W, (w.alloc (.cells #[nv, ov] 27)).alloc (.cells #[.slice none 0 0, .slice none 0 0] 27) = W := ⟨_, rfl⟩
  have q1 : Box2 W0 w.heap.size nv ov := by rw [← hW0]; exact (Box2.new _ _ _).alloc _
  have q2 : Box2 W0 (w.heap.size + 1) (.slice none 0 0) (.slice none 0 0) := by rw [← hW0, ← size_alloc w]; exact Box2.new _ _ _
  have hB0 : Below w.heap.size w W0 := by rw [← hW0]; exact ((Below.refl _ _).alloc (Nat.le_refl _) _).alloc (by rw [size_alloc]; omega) _
  have hbi := (hb.below hB0 (Nat.le_refl _)).mono hB0.size
  have HCP := Lib.hid (copy_impl w.heap.size nv ov b W0 hbi ⟨by omega, hfo⟩ q1.cells.1.1 q1.cells.1.2 q1.lt)
  have HW0 := Lib.hid hW0; have Q2 := Lib.hid q2; have HB0 := Lib.hid hB0; have HL := Lib.hid hl; have HN := Lib.hid hn; have HTL := Lib.hid htl; have HTS := Lib.hid hts
  have HF := Lib.hid hf; have HFO := Lib.hid hfo
  obtain ⟨a0, n0, c0', rfl⟩ : ∃ a n c, nv = .slice a n c := by obtain ⟨ns, _, hrn, _⟩ := hb; obtain ⟨a, c, e, _⟩ := hrn.form; exact ⟨_, _, _, e⟩
  obtain ⟨a1, n1, c1', rfl⟩ : ∃ a n c, ov = .slice a n c := by obtain ⟨ns, _, _, hro⟩ := hb; obtain ⟨a, c, e, _⟩ := reads_form hro; exact ⟨_, _, _, e⟩
  clear hb hl hf hfo hW0 q1 q2 hB0 hbi hn htl hts
  go_enter Try.func18, Try.ntmps18
  go_wp2_with fail
  rw [HW0.out]
  refine HCP.out.mono ?_
  rintro e w1 ⟨nv1, ov1, rfl, hb1⟩
  obtain ⟨na, nn, nc, oa, on, oc, rfl, rfl⟩ := hb1.lens
  have hbw := hb1.below
  obtain ⟨W1, hW1⟩ : ∃ W, w1.alloc (.cells #[.slice na nn nc, .slice oa on oc] 27) = W := ⟨_, rfl⟩
  have hb2 : Below w1.heap.size w1 W1 := by rw [← hW1]; exact (Below.refl _ _).alloc (Nat.le_refl _) _
  have q3 : Box2 W1 w1.heap.size (.slice na nn nc) (.slice oa on oc) := by rw [← hW1]; exact Box2.new _ _ _
  have HBD := Lib.hid ((hb1.lower HB0.out HB0.out.size).later hb2)
  have P2 := Lib.hid ((Q2.out.later hbw).later hb2)
  have P3 := Lib.hid q3
  obtain ⟨C, hC⟩ : ∃ C, w1.heap.size = C := ⟨_, rfl⟩
  have HC := Lib.hid (show w.heap.size + 1 < C by have := hbw.size; have := Q2.out.lt; omega)
  rw [hC] at P3
  have HCE := Lib.hid hC; have HW1 := Lib.hid hW1
  clear hb1 hbw hW1 hb2 q3 hC
  go_upto_region 2 with (fail)
  rw [HW1.out, HCE.out]
  go_wp2_with fail
  go_loopw [11] (fun i wr => ∃ (k : Nat) (na : Option Addr) (nn nc : Nat) (oa : Option Addr) (on oc : Nat), k ≤ n ∧ i = .int .i64 k ∧ Box2 wr C (.slice na nn nc) (.slice oa on oc) ∧ Box2 wr (w.heap.size + 1) (.slice none 0 0) (.slice none 0 0) ∧ BdAt w.heap.size w wr (.slice na nn nc) (.slice oa on oc) (addToks b (ts.take k)))
    (fun i _ => n - (intOf i).toNat)
  case atStart => exact ⟨0, _, _, _, _, _, _, Nat.zero_le _, rfl, P3.out, P2.out, by rw [List.take_zero]; exact HBD.out⟩
  case round =>
    obtain ⟨k, na, nn, nc, oa, on, oc, hk, rfl, hq3, hq2, hbd⟩ := hrel
    by_cases hlt : (k : Int) < (n : Int)
    · obtain ⟨p, hp⟩ : ∃ p, tvs[k]? = some p := ⟨_, List.getElem?_eq_getElem (by rw [HN.out]; omega)⟩
      obtain ⟨g, off, rfl, hg, c0, c1, c2, c3⟩ := (HL.out.below hbd.below (Nat.le_refl _)).at hp
      have hpa := (HL.out.below hbd.below (Nat.le_refl _)).2 p (List.mem_of_getElem? hp)
      have hpt := tok_at HTS.out hp
      have hal : p.1.attrs.length ≤ 68719476736 := by have := tkW_at (List.mem_of_getElem? hpt); have := HF.out; omega
      obtain ⟨⟨⟨kd, nm, ats, tx⟩, ⟨ta, tn, tc⟩⟩, rfl⟩ : ∃ q : Tv, p = q := ⟨p, rfl⟩
      replace c0 : _ = some (Value.int .i64 kd) := c0
      replace c1 : _ = some (Value.string nm) := c1
      replace c2 : _ = some (Value.slice ta tn tc) := c2
      replace c3 : _ = some (Value.string tx) := c3
      have hsz := hbd.size
      have bg : g < wr.heap.size := by omega
      have hfit := fits_take HF.out HFO.out k
      have hno : (addToks b (ts.take k)).nodes.length ≤ 68719476736 := by have := ndW_len (addToks b (ts.take k)).nodes; have := hfit.1; omega
      obtain ⟨mk, hmk⟩ : ∃ m, mkOf kd nm ta tn tc tx = m := ⟨_, rfl⟩
      have HMK := Lib.hid (fun W => hmk ▸ mkOf_any kd nm ta tn tc tx W)
      have HMA := Lib.hid (fun (W : World) (hW : Below wr.heap.size wr W) => hmk ▸ mark_add (B := w.heap.size) (w0 := w) (w := W) (c := C) (b := addToks b (ts.take k)) ⟨kd, nm, ats, tx⟩ ta tn tc (hq3.later hW) (by have := HC.out; omega) (hbd.later hW) ((hpa.below hW (by omega)).mono (by have := hW.size; omega)) hal hno hfit.2)
      have HMORE := Lib.hid (addToks_more (b := b) hpt)
      obtain ⟨R, hR⟩ : ∃ r, addTok (addToks b (ts.take k)) ⟨kd, nm, ats, tx⟩ = r := ⟨_, rfl⟩
      rw [hR] at HMA
      have HR := Lib.hid hR
      have HQ2 := Lib.hid hq2
      have HBT := Lib.hid ((Below.refl wr.heap.size wr).alloc (Nat.le_refl _) (.cells #[.int .i64 kd, .string nm, .slice ta tn tc, .string tx] 30))
      clear hq3 hq2 hbd hpa hpt hal hfit hno hmk hp hR
      go_wp2_with fail
      refine (HMK.out _).mono ?_
      rintro e w2 ⟨rfl, hg2⟩
      have HG2 := Lib.hid (HBT.out.trans (hg2.below.mono HBT.out.size)); clear hg2
      go_wp2_with fail
      refine (HMA.out _ HG2.out).mono ?_
      rintro e w3 ⟨nv3, ov3, rfl, hq3, hu3, hb3⟩
      obtain ⟨na3, nn3, nc3, oa3, on3, oc3, rfl, rfl⟩ := hb3.lens
      have HX := Lib.hid (show Box2 w3 C (.slice na3 nn3 nc3) (.slice oa3 on3 oc3) ∧ Box2 w3 (w.heap.size + 1) (.slice none 0 0) (.slice none 0 0) ∧ BdAt w.heap.size w w3 (.slice na3 nn3 nc3) (.slice oa3 on3 oc3) (addToks b (ts.take (k + 1))) from ⟨hq3, hu3 _ _ _ (show w.heap.size + 1 ≠ C by have := HC.out; omega) (HQ2.out.later HG2.out), by rw [HMORE.out]; show BdAt _ _ _ _ _ (addTok (addToks b (ts.take k)) ⟨kd, nm, ats, tx⟩).1; rw [HR.out]; exact hb3⟩)
      clear hq3 hu3 hb3
      go_wp2_with fail
      go_roundw
      case rel => exact ⟨k + 1, _, _, _, _, _, _, by omega, by go_num, HX.out⟩
      case measure => simp [intOf]; omega
    · have hkn : k = n := by omega
      subst hkn
      rw [show ts.take k = ts from List.take_of_length_le (by rw [HTL.out]; exact Nat.le_refl _)] at hbd
      obtain ⟨ns3, hns3, hm3, ho3⟩ := hbd
      have HO := Lib.hid (out_box (⟨hm3, ho3⟩ : BdM w.heap.size w wr _ _ ns3 (addToks b ts).opn) hq2 (Nat.le_succ _))
      have HN3 := Lib.hid hns3
      obtain ⟨⟨d0, d1⟩, f0, f1⟩ := hq2.cells
      obtain ⟨⟨d2, d3⟩, _, _⟩ := hq3.cells
      have bC := hq3.lt; have bH := hq2.lt
      clear hq3 hm3 ho3 hq2 hns3
      go_wp2_with fail
      obtain ⟨⟨r0, r1⟩, _⟩ := HO.out.1.cells
      refine bodyPost_ret (v := .agg #[.slice na nn nc, .slice oa on oc]) (by simp [results, Try.results18, go_sem, r0, r1]) rfl ?_
      exact ⟨_, _, rfl, HO.out.2.at HN3.out⟩

set_option maxRecDepth 100000 in
set_option maxHeartbeats 8000000 in
theorem adds_spec (nv ov : Value) (b : Bd) (lv : Value) (tvs : List Tv) (ts : List Tok) (hts : tvs.map Prod.fst = ts) (w : World) (hb : BdIn w.heap.size w nv ov b) (hl : ReadT w.heap.size w lv tvs) (hf : ndW b.nodes + tkW ts ≤ 68719476736) (hfo : b.opn.length ≤ 68719476736) :
    Calls Try.prog 19 #[.agg #[nv, ov], lv] w (AddsOut b ts w) := by
  obtain ⟨la, lc, rfl, hl1, hl2⟩ := hl.form
  obtain ⟨n, hn⟩ : ∃ n, tvs.length = n := ⟨_, rfl⟩
  rw [hn] at hl hl1 ⊢
  have htl : ts.length = n := by rw [← hts, List.length_map, hn]
  obtain ⟨W0, hW0⟩ : ∃ W, (w.alloc (.cells #[nv, ov] 27)).alloc (.cells #[.slice none 0 0, .slice none 0 0] 27) = W := ⟨_, rfl⟩
  have q1 : Box2 W0 w.heap.size nv ov := by rw [← hW0]; exact (Box2.new _ _ _).alloc _
  have q2 : Box2 W0 (w.heap.size + 1) (.slice none 0 0) (.slice none 0 0) := by rw [← hW0, ← size_alloc w]; exact Box2.new _ _ _
  have hB0 : Below w.heap.size w W0 := by rw [← hW0]; exact ((Below.refl _ _).alloc (Nat.le_refl _) _).alloc (by rw [size_alloc]; omega) _
  have hbi := (hb.below hB0 (Nat.le_refl _)).mono hB0.size
  have HCP := Lib.hid (copy_spec nv ov b W0 hbi ⟨by omega, hfo⟩)
  have HW0 := Lib.hid hW0; have Q2 := Lib.hid q2; have HB0 := Lib.hid hB0; have HL := Lib.hid hl; have HN := Lib.hid hn; have HTL := Lib.hid htl; have HTS := Lib.hid hts
  have HF := Lib.hid hf; have HFO := Lib.hid hfo
  obtain ⟨a0, n0, c0', rfl⟩ : ∃ a n c, nv = .slice a n c := by obtain ⟨ns, _, hrn, _⟩ := hb; obtain ⟨a, c, e, _⟩ := hrn.form; exact ⟨_, _, _, e⟩
  obtain ⟨a1, n1, c1', rfl⟩ : ∃ a n c, ov = .slice a n c := by obtain ⟨ns, _, _, hro⟩ := hb; obtain ⟨a, c, e, _⟩ := reads_form hro; exact ⟨_, _, _, e⟩
  clear hb hl hf hfo hW0 q1 q2 hB0 hbi hn htl hts
  go_enter Try.func19, Try.ntmps19
  go_wp2_with fail
  rw [HW0.out]
  refine HCP.out.mono ?_
  rintro e w1 ⟨nv1, ov1, rfl, hb1⟩
  obtain ⟨na, nn, nc, oa, on, oc, rfl, rfl⟩ := hb1.lens
  have hbw := hb1.below
  obtain ⟨W1, hW1⟩ : ∃ W, w1.alloc (.cells #[.slice na nn nc, .slice oa on oc] 27) = W := ⟨_, rfl⟩
  have hb2 : Below w1.heap.size w1 W1 := by rw [← hW1]; exact (Below.refl _ _).alloc (Nat.le_refl _) _
  have q3 : Box2 W1 w1.heap.size (.slice na nn nc) (.slice oa on oc) := by rw [← hW1]; exact Box2.new _ _ _
  have HBD := Lib.hid ((hb1.lower HB0.out HB0.out.size).later hb2)
  have P2 := Lib.hid ((Q2.out.later hbw).later hb2)
  have P3 := Lib.hid q3
  obtain ⟨C, hC⟩ : ∃ C, w1.heap.size = C := ⟨_, rfl⟩
  have HC := Lib.hid (show w.heap.size + 1 < C by have := hbw.size; have := Q2.out.lt; omega)
  rw [hC] at P3
  have HCE := Lib.hid hC; have HW1 := Lib.hid hW1
  clear hb1 hbw hW1 hb2 q3 hC
  go_upto_region 2 with (fail)
  rw [HW1.out, HCE.out]
  go_wp2_with fail
  go_loopw [6] (fun i wr => ∃ (k : Nat) (na : Option Addr) (nn nc : Nat) (oa : Option Addr) (on oc : Nat), k ≤ n ∧ i = .int .i64 k ∧ Box2 wr C (.slice na nn nc) (.slice oa on oc) ∧ Box2 wr (w.heap.size + 1) (.slice none 0 0) (.slice none 0 0) ∧ BdAt w.heap.size w wr (.slice na nn nc) (.slice oa on oc) (addToks b (ts.take k)))
    (fun i _ => n - (intOf i).toNat)
  case atStart => exact ⟨0, _, _, _, _, _, _, Nat.zero_le _, rfl, P3.out, P2.out, by rw [List.take_zero]; exact HBD.out⟩
  case round =>
    obtain ⟨k, na, nn, nc, oa, on, oc, hk, rfl, hq3, hq2, hbd⟩ := hrel
    obtain ⟨⟨d2, d3⟩, fd2, fd3⟩ := hq3.cells
    have bC := hq3.lt
    by_cases hlt : (k : Int) < (n : Int)
    · obtain ⟨p, hp⟩ : ∃ p, tvs[k]? = some p := ⟨_, List.getElem?_eq_getElem (by rw [HN.out]; omega)⟩
      obtain ⟨g, off, rfl, hg, c0, c1, c2, c3⟩ := (HL.out.below hbd.below (Nat.le_refl _)).at hp
      have hpa := (HL.out.below hbd.below (Nat.le_refl _)).2 p (List.mem_of_getElem? hp)
      have hpt := tok_at HTS.out hp
      have hal : p.1.attrs.length ≤ 68719476736 := by have := tkW_at (List.mem_of_getElem? hpt); have := HF.out; omega
      obtain ⟨⟨⟨kd, nm, ats, tx⟩, ⟨ta, tn, tc⟩⟩, rfl⟩ : ∃ q : Tv, p = q := ⟨p, rfl⟩
      replace c0 : _ = some (Value.int .i64 kd) := c0
      replace c1 : _ = some (Value.string nm) := c1
      replace c2 : _ = some (Value.slice ta tn tc) := c2
      replace c3 : _ = some (Value.string tx) := c3
      have hsz := hbd.size
      have bg : g < wr.heap.size := by omega
      have hk0 : (0 : Int) ≤ (k : Int) := by omega
      have hfit := fits_take HF.out HFO.out k
      have HADD := Lib.hid (fun (X : World) (hX : Below wr.heap.size wr X) => show Calls Try.prog 12 #[.agg #[.slice na nn nc, .slice oa on oc], .agg #[.int .i64 kd, .string nm, .slice ta tn tc, .string tx]] X fun e wA => ∃ naA nnA ncA oaA onA ocA z, e = .returned (.tuple #[.agg #[.slice naA nnA ncA, .slice oaA onA ocA], .int .i64 z]) ∧ Box2 wA C (.slice na nn nc) (.slice oa on oc) ∧ Box2 wA (w.heap.size + 1) (.slice none 0 0) (.slice none 0 0) ∧ BdAt w.heap.size w wA (.slice naA nnA ncA) (.slice oaA onA ocA) (addTok (addToks b (ts.take k)) ⟨kd, nm, ats, tx⟩).1 from by
        refine (add_spec (.slice na nn nc) (.slice oa on oc) (addToks b (ts.take k)) ⟨kd, nm, ats, tx⟩ ta tn tc X ((hbd.reads (Nat.le_refl _)).up hX) hfit ((hpa.below hX (by omega)).mono (by have := hX.size; omega)) hal).mono ?_
        rintro e wA ⟨nvA, ovA, rfl, hbA⟩
        obtain ⟨naA, nnA, ncA, oaA, onA, ocA, rfl, rfl⟩ := hbA.lens
        exact ⟨_, _, _, _, _, _, _, rfl, (hq3.later hX).later hbA.below, (hq2.later hX).later hbA.below, hbA.lower (hbd.below.trans (hX.mono hsz)) (Nat.le_trans hsz hX.size)⟩)
      have HMORE := Lib.hid (addToks_more (b := b) hpt)
      have HQ2 := Lib.hid hq2; have HQ3 := Lib.hid hq3; have HBE := Lib.hid hbd.below
      clear hq3 hq2 hbd hpa hpt hal hfit hp
      go_wp2_with fail
      go_region_with ((go_at_call 12; refine (HADD.out _ (by repeat' (first | (with_reducible exact Below.refl _ _) | (with_reducible refine bl_dr ?_) | (with_reducible refine bl_al ?_ _)))).mono ?_; rintro e wA ⟨naA, nnA, ncA, oaA, onA, ocA, zA, rfl, hq3A, hq2A, hbdA⟩; obtain ⟨⟨x0, x1⟩, y0, y1⟩ := hq3A.cells; have bCA := hq3A.lt))
      all_goals
        rw [← HMORE.out] at hbdA
        obtain ⟨nsA, hnsA, hmA, hoA⟩ := hbdA
        have HO := Lib.hid (out_box (⟨hmA, hoA⟩ : BdM w.heap.size w wA _ _ nsA (addToks b (ts.take (k + 1))).opn) hq3A (show w.heap.size ≤ C by have := HC.out; omega))
        have HNA := Lib.hid hnsA
        have HQA := Lib.hid ((hq2A.far (show w.heap.size + 1 ≠ C by have := HC.out; omega) (o := 0) (.slice naA nnA ncA)).far (show w.heap.size + 1 ≠ C by have := HC.out; omega) (o := 1) (.slice oaA onA ocA))
        clear hmA hoA hnsA hq2A hq3A
        go_wp2_with fail
        go_roundw
        case rel => exact ⟨k + 1, _, _, _, _, _, _, by omega, by go_num, HO.out.1, HQA.out, HO.out.2.at HNA.out⟩
        case measure => simp [intOf]; omega
    · have hkn : k = n := by omega
      subst hkn
      rw [show ts.take k = ts from List.take_of_length_le (by rw [HTL.out]; exact Nat.le_refl _)] at hbd
      obtain ⟨ns3, hns3, hm3, ho3⟩ := hbd
      have HO := Lib.hid (out_box (⟨hm3, ho3⟩ : BdM w.heap.size w wr _ _ ns3 (addToks b ts).opn) hq2 (Nat.le_succ _))
      have HN3 := Lib.hid hns3
      obtain ⟨⟨d0, d1⟩, f0, f1⟩ := hq2.cells
      have bH := hq2.lt
      clear hq3 hm3 ho3 hq2 hns3
      go_wp2_with fail
      obtain ⟨⟨r0, r1⟩, _⟩ := HO.out.1.cells
      refine bodyPost_ret (v := .agg #[.slice na nn nc, .slice oa on oc]) (by simp [results, Try.results19, go_sem, r0, r1]) rfl ?_
      exact ⟨_, _, rfl, HO.out.2.at HN3.out⟩

/- LawBd -/
open Go.ChangeShapes Go.WideShapes Go.ChangeAt Go.RowKit

mutual
theorem count_data : ∀ (x y : Rw), x.data = y.data → x.count = y.count
  | .leaf v, .leaf u, _ => rfl
  | .leaf v, .sl u n k e cs, h => by rw [Rw.data, Rw.data] at h; cases h
  | .sl u n k e cs, .leaf v, h => by rw [Rw.data, Rw.data] at h; cases h
  | .sl v n k e cs, .sl u m j f ds, h => by
    rw [Rw.data, Rw.data] at h
    rw [Rw.count, Rw.count]
    exact countL_data cs ds (Dt.sl.inj h).2
theorem countL_data : ∀ (cs ds : List Rw), dataL cs = dataL ds → countL cs = countL ds
  | [], [], _ => rfl
  | [], d :: ds, h => by rw [dataL, dataL] at h; cases h
  | c :: cs, [], h => by rw [dataL, dataL] at h; cases h
  | c :: cs, d :: ds, h => by
    rw [dataL, dataL] at h
    obtain ⟨h1, h2⟩ := List.cons.inj h
    rw [countL, countL, count_data c d h1, countL_data cs ds h2]
end
/-- A copy of a builder that came in, as a reading. -/
theorem tb_any {w X : World} {nv ov : Value} {ns : List Nv} {zs : List Int} (hr : ReadN w.heap.size w nv ns) (hi : Reads .i64 w.heap.size w ov zs) (hl : (rwN nv ns).weight ≤ 1048576) (hl2 : (rwI ov zs).weight ≤ 1048576) (hb : Below w.heap.size w X) :
    Calls Try.prog 34 #[.agg #[nv, ov]] X fun e w' => ∃ na nn nc oa on oc, e = .returned (.agg #[.slice na nn nc, .slice oa on oc]) ∧ BdIn w'.heap.size w' (.slice na nn nc) (.slice oa on oc) ⟨ns.map Prod.fst, zs⟩ ∧ Below X.heap.size X w' := by
  refine (toL_Builder (rwN nv ns) (rwI ov zs) X (rwN_is _ _) (rwN_reads ((hr.below hb (Nat.le_refl _)).mono hb.size)) (by omega) (rwI_is _ _) (rwI_reads.2 ((hi.below hb (Nat.le_refl _)).mono hb.size)) (by omega)).mono ?_
  rintro e w' ⟨y0, y1, rfl, i0, d0, i1, d1, ho, _, hb'⟩
  have h := bdIn_of d0 i1 d1 ho
  obtain ⟨na, nn, nc, e0⟩ := sl_form (is_sl_NodeS i0) (Rw.OwnR.reads _ (ownL_two.1 ho).1)
  obtain ⟨oa, on, oc, e1⟩ := sl_form (is_sl_IntS i1) (Rw.OwnR.reads _ (ownL_two.1 ho).2)
  rw [e0, e1] at h
  exact ⟨na, nn, nc, oa, on, oc, by rw [e0, e1], h, hb'⟩

/- LawA -/
open Go.ChangeShapes Go.WideShapes Go.ChangeAt Go.RowKit

/- LawB -/
open Go.ChangeShapes Go.WideShapes Go.ChangeAt Go.RowKit

theorem tkCells_cnt : ∀ ts : List Tv, countL (tkCells ts) = tkW (ts.map Prod.fst)
  | [] => rfl
  | p :: ts => by
    rw [tkCells, countL, countL, countL, countL, Rw.count, Rw.count, Rw.count, rwA, Rw.count, atCells_count', tkCells_cnt ts, List.map_cons, tkW]; omega
theorem rwT_cnt (v : Value) (ts : List Tv) : (rwT v ts).count = tkW (ts.map Prod.fst) := by rw [rwT, Rw.count, tkCells_cnt]
theorem tkCells_w : ∀ ts : List Tv, tkW (ts.map Prod.fst) ≤ 3 * ts.length + 2 * weightL (tkCells ts)
  | [] => Nat.le_refl _
  | p :: ts => by
    have := tkCells_w ts
    rw [tkCells, weightL, weightL, weightL, weightL, rwA, Rw.weight, Rw.weight, Rw.weight, Rw.weight, List.map_cons, tkW, List.length_cons]; omega
theorem rwT_w (v : Value) (ts : List Tv) : tkW (ts.map Prod.fst) ≤ 3 * (rwT v ts).weight := by
  have := tkCells_w ts
  rw [rwT, Rw.weight]; omega

/-- What AddTokens answers, with the places of all that it made. -/
def AddsForm (b : Bd) (ts : List Tok) (X : World) (e : Ending) (w' : World) : Prop :=
  ∃ na nn nc oa on oc ns, e = .returned (.agg #[.slice na nn nc, .slice oa on oc]) ∧ ns.map Prod.fst = (addToks b ts).nodes ∧ BdM X.heap.size X w' (.slice na nn nc) (.slice oa on oc) ns (addToks b ts).opn
theorem addsForm {b : Bd} {ts : List Tok} {X w' : World} {e : Ending} (h : AddsOut b ts X e w') : AddsForm b ts X e w' := by
  obtain ⟨nv, ov, he, hb⟩ := h
  obtain ⟨na, nn, nc, oa, on, oc, rfl, rfl⟩ := hb.lens
  obtain ⟨ns, hns, hm, ho⟩ := hb
  exact ⟨na, nn, nc, oa, on, oc, ns, he, hns, ⟨hm, ho⟩⟩

theorem ownTs {lo hi : Nat} {w : World} {y : Rw} {u : Value} {ts : List Tv} (d : y.data = (rwT u ts).data) (h : OwnRL lo hi w [y]) : ∃ tvs : List Tv, tvs.map Prod.fst = ts.map Prod.fst ∧ ReadT w.heap.size w y.cell tvs := toks_of_data d (rd_of (ownL_one.1 h))

theorem addsS_any {X : World} {nv ov lv : Value} {b : Bd} {ts : List Tok} (hb : BdIn X.heap.size X nv ov b) (ht : ∃ tvs : List Tv, tvs.map Prod.fst = ts ∧ ReadT X.heap.size X lv tvs) (hf : ndW b.nodes + tkW ts ≤ 68719476736) (hfo : b.opn.length ≤ 68719476736) :
    Calls Try.prog 19 #[.agg #[nv, ov], lv] X (AddsForm b ts X) := by
  obtain ⟨tvs, h1, h2⟩ := ht
  exact (adds_spec nv ov b lv tvs ts h1 X hb h2 hf hfo).mono fun _ _ h => addsForm h

theorem addsI_any {X : World} {nv ov lv : Value} {b : Bd} {ts : List Tok} (hb : BdIn X.heap.size X nv ov b) (ht : ∃ tvs : List Tv, tvs.map Prod.fst = ts ∧ ReadT X.heap.size X lv tvs) (hf : ndW b.nodes + tkW ts ≤ 68719476736) (hfo : b.opn.length ≤ 68719476736) :
    Calls Try.prog 18 #[.agg #[nv, ov], lv] X (AddsForm b ts X) := by
  obtain ⟨tvs, h1, h2⟩ := ht
  exact (adds_impl nv ov b lv tvs ts h1 X hb h2 hf hfo).mono fun _ _ h => addsForm h

/- NewB -/
open Go.ChangeShapes Go.WideShapes Go.ChangeAt Go.RowKit

/-- What NewBuilder answers, with the places of all that it made. -/
def NewForm (X : World) (e : Ending) (w' : World) : Prop :=
  ∃ na nn nc oa on oc ns, e = .returned (.agg #[.slice na nn nc, .slice oa on oc]) ∧ ns.map Prod.fst = bdNew.nodes ∧ BdM X.heap.size X w' (.slice na nn nc) (.slice oa on oc) ns bdNew.opn
theorem lit_row {w : World} {e : TypeId} {k B g : Nat} {cs : Array Value} (h : w.heap[g]? = some (.cells cs e (0, 0))) (hk : cs.size = k) (hB : B ≤ g) : w.ownsRow B e k (.slice (some ⟨g, 0, none⟩) 1 1) 1 cs.toList :=
  ⟨by rw [Nat.one_mul, Array.length_toList, hk], Or.inr ⟨g, 1, cs, rfl, hB, h, Nat.le_refl _, by decide, by rw [Nat.one_mul, hk], by rw [Nat.one_mul, ← hk, ← Array.length_toList, List.take_length]⟩⟩
abbrev nvNew : Nv := (⟨sPage, ⟨#[]⟩, -1, []⟩, svNil)
theorem new_made (w : World) : BdM w.heap.size w (((w.alloc (.cells #[.slice (some ⟨w.heap.size + 1, 0, none⟩) 1 1, .slice (some ⟨w.heap.size + 2, 0, none⟩) 1 1] 27)).alloc (.cells #[.string ⟨#[112, 97, 103, 101]⟩, .string ⟨#[]⟩, .int .i64 (-1), .slice none 0 0] 45)).alloc (.cells #[.int .i64 0] 3)) (.slice (some ⟨w.heap.size + 1, 0, none⟩) 1 1) (.slice (some ⟨w.heap.size + 2, 0, none⟩) 1 1) [nvNew] [0] := by
  have hB : Below w.heap.size w (((w.alloc (.cells #[.slice (some ⟨w.heap.size + 1, 0, none⟩) 1 1, .slice (some ⟨w.heap.size + 2, 0, none⟩) 1 1] 27)).alloc (.cells #[.string ⟨#[112, 97, 103, 101]⟩, .string ⟨#[]⟩, .int .i64 (-1), .slice none 0 0] 45)).alloc (.cells #[.int .i64 0] 3)) := (((Below.refl _ _).alloc (Nat.le_refl _) _).alloc (by rw [size_alloc]; omega) _).alloc (by rw [size_alloc, size_alloc]; omega) _
  have h1 := three_new1 w (.cells #[.slice (some ⟨w.heap.size + 1, 0, none⟩) 1 1, .slice (some ⟨w.heap.size + 2, 0, none⟩) 1 1] 27) (.cells #[.string ⟨#[112, 97, 103, 101]⟩, .string ⟨#[]⟩, .int .i64 (-1), .slice none 0 0] 45) (.cells #[.int .i64 0] 3)
  have h2 := three_new2 w (.cells #[.slice (some ⟨w.heap.size + 1, 0, none⟩) 1 1, .slice (some ⟨w.heap.size + 2, 0, none⟩) 1 1] 27) (.cells #[.string ⟨#[112, 97, 103, 101]⟩, .string ⟨#[]⟩, .int .i64 (-1), .slice none 0 0] 45) (.cells #[.int .i64 0] 3)
  refine ⟨⟨⟨?_, hB, hB.size⟩, fun p hp => ?_, by simp [insN, nvNew, sv, svNil, Value.ownBlock]⟩, ⟨?_, hB, hB.size⟩⟩
  · exact lit_row (k := 4) h1 rfl (by omega)
  · rw [List.mem_singleton] at hp; subst hp; exact ownK_nil _ _ _ _ _ _
  · exact lit_row (k := 1) h2 rfl (by omega)

set_option maxHeartbeats 1000000 in
theorem new_spec (w : World) : Calls Try.prog 114 #[] w (NewForm w) := by
  have HO := Lib.hid (new_made w)
  go_enter Try.func114, Try.ntmps114
  go_wp2_with fail
  refine bodyPost_ret (v := .agg #[.slice (some ⟨w.heap.size + 1, 0, none⟩) 1 1, .slice (some ⟨w.heap.size + 2, 0, none⟩) 1 1]) (by simp [results, Try.results114, go_sem]) rfl ?_
  exact ⟨_, _, _, _, _, _, [nvNew], rfl, rfl, HO.out⟩

/- DrawBd -/
open Go.ChangeShapes Go.WideShapes Go.ChangeAt Go.RowKit

theorem tkW_four : ∀ ts : List Tok, (∀ t ∈ ts, t.attrs.length ≤ 4) → tkW ts ≤ 11 * ts.length
  | [], _ => Nat.le_refl _
  | t :: ts, h => by
    have h1 := h t List.mem_cons_self
    have h2 := tkW_four ts fun u hu => h u (List.mem_cons_of_mem _ hu)
    rw [tkW, List.length_cons]; omega
/-- The model's TokensOf, as a premise: what ToksS gives. -/
def ToksS : Prop := ∀ (s : ByteArray), s.size ≤ 536870912 → ∀ w : World, Calls Try.prog 47 #[.string s] w (ToksOut (tokensB s.data.toList) w)
set_option maxRecDepth 100000 in
set_option maxHeartbeats 2000000 in
theorem builder_any (HT : ToksS) (b : Nat) (sv : Value) (len : Nat) (w : World) (hc : Cur b sv len w) :
    Calls Try.prog 84 #[.pointer (some ⟨b, 0, none⟩)] w (BdGot b sv len w) := by
  have HC := Lib.hid hc; have HL := Lib.hid hc.lt; have HTK := Lib.hid HT; clear hc HT
  go_enter Try.func84, Try.ntmps84
  go_wp2_with fail
  refine (new_spec _).mono ?_
  rintro e w1 ⟨na, nn, nc, oa, on, oc, ns, rfl, hns, hM⟩
  have HNS := Lib.hid hns
  have hM0 := hM
  have hM := hM.down (bl_tr ((Below.refl w.heap.size w).alloc (Nat.le_refl _) _) hM.n.row.below) (by rw [size_alloc]; exact Nat.le_succ _)
  have HX1 := Lib.hid ((Box2.new w (.slice none 0 0) (.slice none 0 0)).below hM0.n.row.below (by rw [size_alloc]; exact Nat.lt_succ_self _))
  have HM := Lib.hid hM; have HC1 := Lib.hid (HC.out.below hM.n.row.below)
  have HK1 := Lib.hid (Kept.of_below (b := b) hM.n.row.below)
  clear hM hM0 hns
  go_wp2_with fail
  refine (page10_any b sv len _ HC1.out).mono ?_
  rintro e w2 ⟨s, rfl, hs, hc2, ho2⟩
  have HC2 := Lib.hid hc2; have HK2 := Lib.hid (HK1.out.trans ho2)
  have HM2 := Lib.hid (bdM_kept HM.out ho2 HL.out); have HX2 := Lib.hid (box_kept HX1.out ho2 (by have := HL.out; omega))
  have HS := Lib.hid (show s.size ≤ 6000 from hs)
  clear hc2 ho2 hs
  go_wp2_with fail
  refine (HTK.out s (by have := HS.out; omega) _).mono ?_
  rintro e w3 ⟨lv, tvs, rfl, hts, hT⟩
  obtain ⟨la, lc, rfl⟩ := hT.row.own.slice
  have HTS := Lib.hid hts; have HT3 := Lib.hid hT
  have HC3 := Lib.hid (HC2.out.below hT.row.below)
  have HK3 := Lib.hid (HK2.out.trans (Kept.of_below (b := b) hT.row.below))
  have HM3 := Lib.hid (HM2.out.later hT.row.below); have HX3 := Lib.hid (HX2.out.below hT.row.below HX2.out.lt)
  clear hts hT
  go_wp2_with fail
  refine (addsS_any (b := bdNew) (ts := tokensB s.data.toList) (HM3.out.reads HNS.out) ⟨tvs, HTS.out, HT3.out.reads (Nat.le_refl _)⟩ ?_ (by decide)).mono ?_
  · have h1 := tkW_four _ (tokens_attrs s.data.toList)
    have h2 := tokens_size s.data.toList
    rw [size_list] at h2
    have h3 := HS.out
    have h4 : ndW bdNew.nodes ≤ 100 := by decide
    omega
  rintro e w4 ⟨na4, nn4, nc4, oa4, on4, oc4, ns4, rfl, hns4, hM4⟩
  have HC4 := Lib.hid (HC3.out.below hM4.n.row.below)
  have HK4 := Lib.hid (HK3.out.trans (Kept.of_below (b := b) hM4.n.row.below))
  have HM4 := Lib.hid (hM4.down (Below.refl _ w4) (B' := w.heap.size) (w0' := w4) HK3.out.size)
  have HOK := Lib.hid (show BdOk 6000 ⟨ns4.map Prod.fst, (addToks bdNew (tokensB s.data.toList)).opn⟩ by
    rw [hns4]
    refine bdOk_adds _ _ (bdOk_new _) fun t ht => ?_
    have h1 := tokens_text_le s.data.toList t ht
    rw [size_list] at h1
    have h3 := HS.out
    exact ⟨by omega, tokens_attrs s.data.toList t ht⟩)
  obtain ⟨⟨c0, c1⟩, f0, f1⟩ := (HX3.out.below hM4.n.row.below HX3.out.lt).cells
  have HX4 := Lib.hid (HX3.out.below hM4.n.row.below HX3.out.lt)
  clear hM4 hns4
  go_wp2_with fail
  obtain ⟨⟨r0, r1⟩, -⟩ := ((HX4.out.set0 (.slice na4 nn4 nc4)).set1 (.slice oa4 on4 oc4)).cells
  refine bodyPost_ret (v := .agg #[.slice na4 nn4 nc4, .slice oa4 on4 oc4]) (by simp [results, Try.results84, go_sem, r0, r1]) rfl ?_
  exact ⟨na4, nn4, nc4, oa4, on4, oc4, ns4, _, rfl, HOK.out, ((HM4.out.setT HX4.out (Nat.le_refl _)).setT (HX4.out.set0 _) (Nat.le_refl _)).down (Below.refl _ _) (Nat.le_refl _), cur_setB (cur_setB HC4.out HL.out _ _) HL.out _ _, kept_set (kept_set HK4.out (Nat.le_refl _) _ _) (Nat.le_refl _) _ _⟩
end Go.Proofs.Ytmlmiclgledcpaa

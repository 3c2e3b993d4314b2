/- 13 texts in one. -/
import Derived.Test.YtiginllbfjekeaaTagP
import Derived.Lib.SmallJoins
import Derived.Deep.Slices
import Derived.ShutString
import Derived.ChangeOld
import Derived.Carry
import Derived.Test.YtiginllbfjekeaaDraw
import Derived.ProofKit
import Derived.OpenShut
import Derived.SizedLaws
import Derived.Test.YtiginllbfjekeaaOwn
import Derived.Test.YtiginllbfjekeaaNd
import Derived.Test.YtiginllbfjekeaaDpTok
import Derived.Test.YtiginllbfjekeaaRawL
import Derived.Shelf.SlSortCmp.QuietGrown
import Derived.Test.YtiginllbfjekeaaAddM
import Derived.Test.YtiginllbfjekeaaDrawK
namespace Go.Proofs.Ytiginllbfjekeaa
/- RowT -/
open Go.ChangeShapes Go.WideShapes Go.ChangeAt Go.RowKit Go.Joins Go.Deep

theorem add_lit (g off j : Nat) : (⟨g, off, none⟩ : Addr).add j = ⟨g, off + j, none⟩ := by
  unfold Addr.add
  split
  · rename_i h4; subst h4; rfl
  · rfl
theorem mapM_at {f : Nat → Option Value} : ∀ {l : List Nat} {cs : List Value}, l.mapM f = some cs → cs.length = l.length ∧ ∀ i j : Nat, l[i]? = some j → f j = cs[i]?
  | [], cs, h => by
    have : cs = [] := by simpa using h.symm
    subst this
    exact ⟨rfl, fun i j h => by simp at h⟩
  | a :: l, cs, h => by
    rw [List.mapM_cons] at h
    obtain ⟨v, hv, h⟩ := Option.bind_eq_some_iff.1 h
    obtain ⟨vs, hvs, h⟩ := Option.bind_eq_some_iff.1 h
    have : cs = v :: vs := by simpa using h.symm
    subst this
    obtain ⟨k1, k2⟩ := mapM_at hvs
    refine ⟨by simp [k1], fun i j hj => ?_⟩
    cases i with
    | zero =>
      have : a = j := by simpa using hj
      subst this
      simpa using hv
    | succ i => simpa using k2 i j (by simpa using hj)
theorem cells?_at {w : World} {base n : Nat} {a : Addr} {cs : List Value} (h : w.cells? base a n = some cs) : cs.length = n ∧ ∀ i, i < n → w.cell? (a.add i) = cs[i]? := by
  unfold World.cells? at h
  split at h
  · obtain ⟨k1, k2⟩ := mapM_at h
    rw [List.length_range] at k1
    exact ⟨k1, fun i hi => k2 i i (by rw [List.getElem?_range hi])⟩
  · cases h

/-- The strings of an attribute are no longer than a string may be. -/
def AtOk (a : At) : Prop := a.1.size ≤ 9223372036854775807 ∧ a.2.size ≤ 9223372036854775807
theorem atCells_small {ats : List At} (h : ∀ a ∈ ats, AtOk a) : SmallL (atCells ats) := by
  induction ats with
  | nil => rw [atCells, SmallL]; trivial
  | cons a ats ih =>
    rw [atCells, SmallL, SmallL, Rw.Small, Rw.Small]
    exact ⟨(h a List.mem_cons_self).1, (h a List.mem_cons_self).2, ih fun b hb => h b (List.mem_cons_of_mem _ hb)⟩
theorem rwA_small {v : Value} {ats : List At} (h : ∀ a ∈ ats, AtOk a) : (rwA v ats).Small := by rw [rwA, Rw.Small]; exact atCells_small h
/-- A slice of attributes that came in. -/
def IsAts (w : World) (a : Option Addr) (len cap : Nat) (xs : List At) : Prop :=
  ReadsK encA 2 w.heap.size w (.slice a len cap) xs ∧ xs.length = len ∧ ∀ x ∈ xs, AtOk x

theorem array1 {α : Type} {cs : Array α} (h : cs.size = 1) : ∃ c0, cs = #[c0] := by
  obtain ⟨l⟩ := cs
  match l, h with
  | [c0], _ => exact ⟨c0, rfl⟩
set_option maxRecDepth 100000 in
theorem open_agg1 {P : Program} {H : Type} {enc : TypeId × Value → H} {w : World} {base : Nat} {spare : Nat → Bool} {held : Bool} {r : Reach} {b0 : Nat} {t : TypeId} {f0 : Field} {v : Value} {d : DataW H} {p : List MemPlace} (hs : P.underlying t = some (.struct #[f0])) (hone : oneCellFields P #[f0] = true) (hC : P.cellsOf t = 1)
    (hv : Value.okWide P w r b0 t v) (h : DataW.Trod enc P w base spare held t v d p) :
    ∃ (v0 : Value) (y0 : DataW H × List MemPlace) (n : Nat), v = .agg #[v0] ∧ d = .agg [y0.1] ∧ p = y0.2 ∧ DataW.trod enc P w base spare held n f0.type [v0] = some y0 := by
  obtain ⟨cs, rfl, hsz⟩ := okWide_struct hs hv
  obtain ⟨c0, rfl⟩ := array1 (hsz.trans hC)
  obtain ⟨fuel, hf⟩ := h
  obtain ⟨y0, n, hx, _, h0⟩ := trod_struct1 hs hf
  obtain ⟨o0, k0⟩ := hone_of hone 0 f0 rfl
  simp only [Prod.mk.injEq] at hx
  exact ⟨c0, y0, n, rfl, hx.1, hx.2, by simpa [Value.cells, o0, k0] using h0⟩

/- RowOf -/
open Go.ChangeShapes Go.WideShapes Go.ChangeAt Go.RowKit

theorem int_range {n : Int} (h : (Lit.int .i64 n).wf = true) : -9223372036854775808 ≤ n ∧ n ≤ 9223372036854775807 := by
  have e1 : IntKind.i64.min = -9223372036854775808 := rfl
  have e2 : IntKind.i64.max = 9223372036854775807 := rfl
  simp [Lit.wf, e1, e2] at h
  omega
theorem str_reach {s : ByteArray} (h : s.data.toList.length ≤ reachBytes) : s.size ≤ 140737488351232 := by
  have e1 : s.size = s.data.size := rfl
  have e2 : s.data.toList.length = s.data.size := Array.length_toList
  have e3 : reachBytes = 140737488351232 := by decide
  omega

/-- A slice of integers that came in: nil, or a row of cap cells, of which the first len are its elements. -/
def IsRow (k : IntKind) (w : World) (a : Option Addr) (len cap : Nat) (zs : List Int) : Prop :=
  (a = none ∧ len = 0 ∧ cap = 0 ∧ zs = []) ∨
  ∃ x, a = some x ∧ len ≤ cap ∧ cap ≤ maxLen ∧ zs.length = cap ∧ (∀ i, i < zs.length → w.cell? (x.add i) = some (.int k (zs.getD i 0))) ∧ ∀ n ∈ zs, (Lit.int k n).wf = true

theorem row_of {P : Program} {H : Type} {enc : TypeId × Value → H} {W : World} {k : IntKind} {t e : TypeId} {a : Option Addr} {len cap : Nat} {d : DataW H} {p : List MemPlace}
    (ht : P.underlying t = some (.slice e)) (he : P.underlying e = some (.int k)) (hc : P.cellsOf e = 1) (h : DataW.Trod enc P W 0 (fun _ => true) true t (.slice a len cap) d p) : ∃ zs, IsRow k W a len cap zs := by
  obtain ⟨fuel, hf⟩ := h
  rcases open_ints ht he hc hf with ⟨hcs, _⟩ | ⟨x, l, c, zs, hcs, _, hl, hm, hz, _, hcell, hwz⟩
  · simp [Value.cells] at hcs
    obtain ⟨rfl, rfl, rfl⟩ := hcs
    exact ⟨[], .inl ⟨rfl, rfl, rfl, rfl⟩⟩
  · simp [Value.cells] at hcs
    obtain ⟨rfl, rfl, rfl⟩ := hcs
    exact ⟨zs, .inr ⟨_, rfl, hl, hm, by simpa using hz, hcell, hwz⟩⟩

theorem u8_range {n : Int} (h : (Lit.int .u8 n).wf = true) : 0 ≤ n ∧ n < 256 := by
  have e1 : IntKind.u8.min = 0 := rfl
  have e2 : IntKind.u8.max = 255 := rfl
  simp [Lit.wf, e1, e2] at h
  omega
/-- The bytes that a law draws from. -/
theorem code_of_row {w : World} {a : Option Addr} {len cap : Nat} {zs : List Int} (h : IsRow .u8 w a len cap zs) (hl : len ≤ 1048576) : CodeOk w.heap.size w (.slice a len cap) len := by
  refine ⟨a, cap, rfl, hl, ?_⟩
  rcases h with ⟨rfl, rfl, rfl, rfl⟩ | ⟨x, rfl, hlc, hm, hz, hcell, hwz⟩
  · exact Or.inl rfl
  · by_cases h0 : len = 0
    · exact Or.inl h0
    · obtain ⟨blk, off, spot⟩ := x
      have c0 := hcell 0 (by omega)
      have hspot : spot = none := by simpa [Addr.add] using World.cell?_spot c0
      subst hspot
      have hlt : blk < w.heap.size := by
        rcases Nat.lt_or_ge blk w.heap.size with h1 | h1
        · exact h1
        · have h2 : w.heap[blk]? = none := Array.getElem?_eq_none h1
          simp [World.cell?, Addr.add, h2] at c0
      refine Or.inr ⟨blk, off, rfl, hlt, fun j hj => ?_⟩
      have hj2 : j < zs.length := by omega
      have hw := u8_range (hwz (zs.getD j 0) (by simp [List.getD, List.getElem?_eq_getElem hj2]))
      refine ⟨zs.getD j 0, hw.1, hw.2, ?_⟩
      have h3 := hcell j hj2
      have e : (⟨blk, off, none⟩ : Addr).add j = ⟨blk, off + j, none⟩ := by
        unfold Addr.add
        split
        · rename_i h4; subst h4; rfl
        · rfl
      rw [e] at h3
      exact h3

/- RowReads -/
open Go.ChangeShapes Go.WideShapes Go.ChangeAt Go.RowKit

theorem i64_range {n : Int} (h : (Lit.int .i64 n).wf = true) : -9223372036854775808 ≤ n ∧ n ≤ 9223372036854775807 := int_range h
theorem reads_of_row {k : IntKind} {w : World} {a : Option Addr} {len cap : Nat} {zs : List Int} (h : IsRow k w a len cap zs) :
    Reads k w.heap.size w (.slice a len cap) (zs.take len) ∧ (zs.take len).length = len ∧ ∀ n ∈ zs.take len, (Lit.int k n).wf = true := by
  rcases h with ⟨rfl, rfl, rfl, rfl⟩ | ⟨x, rfl, hlc, hm, hz, hcell, hwz⟩
  · exact ⟨⟨none, 0, rfl, by simp, by omega, (fun _ => rfl), Or.inl rfl⟩, rfl, by simp⟩
  · have hl : (zs.take len).length = len := by rw [List.length_take]; omega
    refine ⟨⟨some x, cap, by rw [hl], by omega, by unfold maxLen at hm; omega, (fun h => by cases h), ?_⟩, hl, fun n hn => hwz n (List.mem_of_mem_take hn)⟩
    rw [hl]
    by_cases h0 : len = 0
    · exact Or.inl h0
    · obtain ⟨blk, off, spot⟩ := x
      have c0 := hcell 0 (by omega)
      have hspot : spot = none := by simpa [Addr.add] using World.cell?_spot c0
      subst hspot
      have hlt : blk < w.heap.size := by
        rcases Nat.lt_or_ge blk w.heap.size with h1 | h1
        · exact h1
        · have h2 : w.heap[blk]? = none := Array.getElem?_eq_none h1
          simp [World.cell?, Addr.add, h2] at c0
      refine Or.inr ⟨blk, off, rfl, hlt, fun j hj => ?_⟩
      have h3 := hcell j (by omega)
      have e : (⟨blk, off, none⟩ : Addr).add j = ⟨blk, off + j, none⟩ := by
        unfold Addr.add
        split
        · rename_i h4; subst h4; rfl
        · rfl
      rw [e] at h3
      rw [h3]
      have e2 : (zs.take len).getD j 0 = zs.getD j 0 := by simp [List.getD_eq_getElem?_getD, hj]
      rw [e2]
theorem bytes_of_wf {zs : List Int} (h : ∀ n ∈ zs, (Lit.int .u8 n).wf = true) : Bytes zs := fun n hn => u8_range (h n hn)
theorem ints_of_wf {zs : List Int} (h : ∀ n ∈ zs, (Lit.int .i64 n).wf = true) : Ints zs := fun n hn => int_range (h n hn)

/- RowN -/
open Go.ChangeShapes Go.WideShapes Go.ChangeAt Go.RowKit Go.Joins Go.Deep

theorem trod_struct4 {P : Program} {H : Type} {enc : TypeId × Value → H} {w : World} {base : Nat} {spare : Nat → Bool} {held : Bool} {t : TypeId} {f0 f1 f2 f3 : Field} {fuel : Nat} {cs : List Value} {x : DataW H × List MemPlace} (ht : P.underlying t = some (.struct #[f0, f1, f2, f3])) (h : DataW.trod enc P w base spare held fuel t cs = some x) :
    ∃ y0 y1 y2 y3 n, x = (.agg [y0.1, y1.1, y2.1, y3.1], y0.2 ++ (y1.2 ++ (y2.2 ++ y3.2))) ∧ cs.length = P.cellsOf t ∧ DataW.trod enc P w base spare held n f0.type ((cs.drop f0.offset).take (P.cellsOf f0.type)) = some y0 ∧
      DataW.trod enc P w base spare held n f1.type ((cs.drop f1.offset).take (P.cellsOf f1.type)) = some y1 ∧ DataW.trod enc P w base spare held n f2.type ((cs.drop f2.offset).take (P.cellsOf f2.type)) = some y2 ∧ DataW.trod enc P w base spare held n f3.type ((cs.drop f3.offset).take (P.cellsOf f3.type)) = some y3 := by
  obtain ⟨xs, n, _, rfl, hl, hlen, hf⟩ := DataW.trod_struct ht h
  match xs, hlen with
  | [y0, y1, y2, y3], _ => exact ⟨y0, y1, y2, y3, n, by simp, hl, by simpa using hf 0 f0 rfl, by simpa using hf 1 f1 rfl, by simpa using hf 2 f2 rfl, by simpa using hf 3 f3 rfl⟩
theorem four_of {cs : List Value} (h : cs.length = 4) : ∃ c0 c1 c2 c3, cs = [c0, c1, c2, c3] := by
  match cs, h with
  | [c0, c1, c2, c3], _ => exact ⟨c0, c1, c2, c3, rfl⟩
theorem slice_of {P : Program} {H : Type} {enc : TypeId × Value → H} {w : World} {base : Nat} {spare : Nat → Bool} {held : Bool} {t e : TypeId} {fuel : Nat} {v : Value} {x : DataW H × List MemPlace} (ht : P.underlying t = some (.slice e)) (h : DataW.trod enc P w base spare held fuel t [v] = some x) : ∃ a len cap, v = .slice a len cap := by
  rcases open_slice ht h with ⟨hcs, _⟩ | ⟨a, l, c, _, _, _, _, hcs, _⟩
  · exact ⟨none, 0, 0, by simpa using hcs⟩
  · exact ⟨some a, l, c, by simpa using hcs⟩

def TkOk (x : Tok) : Prop := x.name.size ≤ 9223372036854775807 ∧ x.text.size ≤ 9223372036854775807 ∧ (∀ a ∈ x.attrs, AtOk a)
/-- A slice of tokens that came in. -/
def IsTks (w : World) (v : Value) (ns : List Tv) : Prop := ReadT w.heap.size w v ns ∧ ∀ p ∈ ns, TkOk p.1

/- DpTokL -/
open Go.ChangeShapes Go.WideShapes Go.ChangeAt Go.RowKit

/- FeedP -/
open Go.ChangeShapes Go.WideShapes Go.ChangeAt Go.RowKit

theorem MineT.alloc {B : Nat} {w0 w : World} {v : Value} {ts : List Tv} (h : MineT B w0 w v ts) (o : Obj) : MineT B w0 (w.alloc o) v ts := h.later ((Below.refl _ w).alloc (Nat.le_refl _) o)
theorem MineT.rebase {B B' : Nat} {w0 w0' w : World} {v : Value} {ts : List Tv} (h : MineT B w0 w v ts) (hB : B' ≤ B) (hb : Below B' w0' w) : MineT B' w0' w v ts :=
  ⟨⟨(h.row.own.mono hB (Nat.le_refl _)).1, hb, Nat.le_trans hB h.row.size⟩, fun p hp => (h.inn p hp).mono hB (Nat.le_refl _), h.nod⟩
theorem MineT.set {B b o : Nat} {w0 w : World} {v u : Value} {ts : List Tv} (h : MineT B w0 w v ts) (hb : b < B) : MineT B (w.setCell ⟨b, o, none⟩ u) (w.setCell ⟨b, o, none⟩ u) v ts :=
  ⟨⟨(ownK_set h.row.own hb).1, Below.refl _ _, Nat.le_trans h.row.size (size_set _ _ _)⟩, fun p hp => (ownK_set (h.inn p hp) hb).mono (Nat.le_refl _) (size_set _ _ _), h.nod⟩
theorem MineT.slice {B : Nat} {w0 w : World} {v : Value} {ts : List Tv} (h : MineT B w0 w v ts) : ∃ a n c, v = .slice a n c := h.row.own.slice'
theorem heap_one1 {w : World} {b : Nat} {x u : Value} {T : TypeId} (h : w.heap[b]? = some (.cells #[x] T (0, 0))) : (w.setCell ⟨b, 0, none⟩ u).heap[b]? = some (.cells #[u] T (0, 0)) := by
  rw [heap_one (o := 0) h u]; rfl
theorem cells_one {w : World} {b : Nat} {x : Value} {T : TypeId} (h : w.heap[b]? = some (.cells #[x] T (0, 0))) : w.cell? ⟨b, 0, none⟩ = some x ∧ w.frozen? ⟨b, 0, none⟩ = false := by
  refine ⟨?_, ?_⟩
  · unfold World.cell?; rw [h]; rfl
  · unfold World.frozen?; rw [h]; rfl

/-- What FeedText answers for the bytes x: the tokens, all the call's own, and what remains. -/
def FeedOut (x : List UInt8) (w : World) (e : Ending) (w' : World) : Prop :=
  ∃ v ts, e = .returned (.tuple #[v, .agg #[.string (ofL (feedB x).2)]]) ∧ ts.map Prod.fst = (feedB x).1 ∧ MineT w.heap.size w w' v ts
/-- What EndText and TokensOf answer: these tokens, all the call's own. -/
def ToksOut (l : List Tok) (w : World) (e : Ending) (w' : World) : Prop :=
  ∃ v ts, e = .returned v ∧ ts.map Prod.fst = l ∧ MineT w.heap.size w w' v ts
/-- One token more. -/
theorem toks_more {x y z : List UInt8} {ts : List Tv} {p : Tv} (h : feedB x = (ts.map Prod.fst ++ (feedB y).1, (feedB y).2)) (hy : feedB y = (p.1 :: (feedB z).1, (feedB z).2)) : feedB x = ((ts ++ [p]).map Prod.fst ++ (feedB z).1, (feedB z).2) := by
  rw [h, hy]; simp
theorem toks_none {x y z : List UInt8} {ts : List Tv} (h : feedB x = (ts.map Prod.fst ++ (feedB y).1, (feedB y).2)) (hy : feedB y = ((feedB z).1, (feedB z).2)) : feedB x = (ts.map Prod.fst ++ (feedB z).1, (feedB z).2) := by
  rw [h, hy]
theorem toks_end {x y : List UInt8} {ts : List Tv} (h : feedB x = (ts.map Prod.fst ++ (feedB y).1, (feedB y).2)) (hy : feedB y = ([], y)) : ts.map Prod.fst = (feedB x).1 ∧ y = (feedB x).2 := by
  rw [h, hy]; simp
theorem tag_inside (y : List UInt8) (e : Nat) : (ofL y).extract 1 e = ofL ((y.take e).drop 1) := by
  rw [extract_eq, ofL_list]
  congr 1
  rw [List.drop_take]
/-- What TagOf answers, by cases. -/
theorem tagOut_cases {s : ByteArray} {w : World} {e : Ending} {w' : World} (h : TagOut s w e w') :
    (∃ a n c, tagB s.data.toList = none ∧ e = .returned (.tuple #[.agg #[.int .i64 0, .string ⟨#[]⟩, .slice a n c, .string ⟨#[]⟩], .bool false]) ∧ Below w.heap.size w w') ∨
    ∃ t a n c, tagB s.data.toList = some t ∧ e = .returned (.tuple #[.agg #[.int .i64 t.kind, .string t.name, .slice a n c, .string t.text], .bool true]) ∧ OwnK encA 2 104 w.heap.size w'.heap.size w' (.slice a n c) t.attrs ∧ Below w.heap.size w w' := by
  obtain ⟨⟨a, n, c⟩, he, ho, hb⟩ := h
  cases ht : tagB s.data.toList with
  | none =>
    have e1 : tagT s = tokZero := by unfold tagT; rw [ht]; rfl
    have e2 : tagOk s = false := by unfold tagOk; rw [ht]; rfl
    refine Or.inl ⟨a, n, c, rfl, ?_, hb⟩
    rw [he, e2, e1]; rfl
  | some t =>
    have e1 : tagT s = t := by unfold tagT; rw [ht]; rfl
    have e2 : tagOk s = true := by unfold tagOk; rw [ht]; rfl
    refine Or.inr ⟨t, a, n, c, rfl, ?_, ?_, hb⟩
    · rw [he, e2, e1]; rfl
    · rw [e1] at ho; exact ho
/-- One token in a new block, whose number is known otherwise. -/
theorem readsT_at (w : World) (p : Tv) (H : Nat) (hH : w.heap.size = H) {k : Int} {nm tx : ByteArray} {u : Value} (h1 : p.1.kind = k) (h2 : p.1.name = nm) (h3 : sv p.2 = u) (h4 : p.1.text = tx) :
    ReadsK encT 4 (H + 1) (w.alloc (.cells #[.int .i64 k, .string nm, u, .string tx] 30)) (.slice (some ⟨H, 0, none⟩) 1 1) [p] := by
  subst hH; exact readsT_one w p h1 h2 h3 h4
/-- A slice of one new token. -/
theorem mineT_lit {B : Nat} {w0 w : World} (p : Tv) (H : Nat) (hH : w.heap.size = H) (hB : B ≤ w.heap.size) (hb : Below B w0 w) {k : Int} {nm tx : ByteArray} {u : Value} (h1 : p.1.kind = k) (h2 : p.1.name = nm) (h3 : sv p.2 = u) (h4 : p.1.text = tx)
    (hi : OwnK encA 2 104 B w.heap.size w (sv p.2) p.1.attrs) : MineT B w0 (w.alloc (.cells #[.int .i64 k, .string nm, u, .string tx] 30)) (.slice (some ⟨H, 0, none⟩) 1 1) [p] := by
  subst hH; subst h1; subst h2; subst h3; subst h4
  have ha : Below w.heap.size w (w.alloc (.cells #[.int .i64 p.1.kind, .string p.1.name, sv p.2, .string p.1.text] 30)) := (Below.refl _ w).alloc (Nat.le_refl _) _
  refine ⟨⟨?_, hb.trans (ha.mono hB), by rw [size_alloc]; omega⟩, fun q hq => ?_, ?_⟩
  · have := World.ownsRow_lit (base := B) (e := 30) (size := 4) w #[.int .i64 p.1.kind, .string p.1.name, sv p.2, .string p.1.text] 1 hB (by decide) (by simp)
    exact this
  · rw [List.mem_singleton] at hq
    subst hq
    exact (hi.later ha).mono (Nat.le_refl _) ha.size
  · unfold insB
    rw [List.flatMap_cons, List.flatMap_nil, List.append_nil]
    cases (sv p.2).ownBlock with
    | none => exact List.nodup_nil
    | some g => simp
theorem endB_nil : endB [] = [] := by simp [endB]
theorem endB_tag {r : List UInt8} (h : r[0]? = some 60) : endB r = [] := by unfold endB; rw [if_pos (Or.inr h)]
theorem endB_text {r : List UInt8} (h : r ≠ []) (h2 : r[0]? ≠ some 60) : endB r = [tokText (ofL r)] := by unfold endB; rw [if_neg (by rintro (h3 | h3); exact h h3; exact h2 h3)]
theorem toks_nodup {B : Nat} {w0 wr w1 : World} {v : Value} {ts : List Tv} {p : Tv} {hi : Nat} (h : MineT B w0 wr v ts) (ho : OwnK encA 2 104 wr.heap.size hi w1 (sv p.2) p.1.attrs) : (insB ts ++ insB [p]).Nodup := by
  rw [List.nodup_append]
  refine ⟨h.nod, ?_, fun a ha b hb e => ?_⟩
  · unfold insB
    rw [List.flatMap_cons, List.flatMap_nil, List.append_nil]
    cases (sv p.2).ownBlock with
    | none => exact List.nodup_nil
    | some g => simp
  · subst e
    obtain ⟨q, hq, hb2⟩ := insB_mem.1 hb
    rw [List.mem_singleton] at hq
    subst hq
    have h1 := (h.lt a ha).2
    have h2 := (ho.1.lt a hb2).1
    omega
theorem idx_tag {y : List UInt8} (h0 : idxB 60 y = 0) (h1 : idxB 62 y < y.length) : 1 ≤ idxB 62 y := by
  cases y with
  | nil => exact absurd h1 (Nat.not_lt_zero _)
  | cons b l =>
    have hb : b = 60 := by
      have := idxB_at (c := 60) (l := b :: l) (by rw [h0]; simp)
      rw [h0] at this
      simpa using this
    subst hb
    rw [idxB, if_neg (by decide)]; omega

/- LawT -/
open Go.ChangeShapes Go.WideShapes Go.ChangeAt Go.RowKit

theorem tagB_attrs {l : List UInt8} {t : Tok} (h : tagB l = some t) : t.attrs.length ≤ 4 := by
  unfold tagB at h
  split at h
  · cases h
  · split at h
    · split at h
      · cases h; exact Nat.zero_le _
      · cases h
    · split at h
      · cases h
      · split at h
        · cases h
        · split at h
          · rename_i hh; cases h; exact hh.2
          · cases h
theorem feed_attrs (a : List UInt8) : ∀ t ∈ (feedB a).1, t.attrs.length ≤ 4 := by
  generalize hn : a.length = n
  induction n using Nat.strongRecOn generalizing a with
  | _ n ih =>
    by_cases h1 : 0 < idxB 60 a ∧ idxB 60 a < a.length
    · rw [feed_text h1.1 h1.2]
      intro t ht
      rcases List.mem_cons.1 ht with h | h
      · subst h; exact Nat.zero_le _
      · exact ih (a.length - idxB 60 a) (by omega) (a.drop (idxB 60 a)) List.length_drop t h
    · by_cases h2 : idxB 60 a = 0 ∧ idxB 62 a < a.length
      · rw [feed_tag h2.1 h2.2]
        intro t ht
        rcases List.mem_append.1 ht with h | h
        · exact tagB_attrs (Option.mem_toList.1 h)
        · exact ih (a.length - (idxB 62 a + 1)) (by omega) (a.drop (idxB 62 a + 1)) List.length_drop t h
      · have hl := idxB_le 60 a
        have hl2 := idxB_le 62 a
        rw [feed_end (x := a) (by omega) h1]
        intro t ht; cases ht
theorem end_attrs (r : List UInt8) : ∀ t ∈ endB r, t.attrs.length ≤ 4 := by
  intro t ht
  unfold endB at ht
  split at ht
  · cases ht
  · rw [List.mem_singleton] at ht; subst ht; exact Nat.zero_le _
theorem tokens_attrs (s : List UInt8) : ∀ t ∈ tokensB s, t.attrs.length ≤ 4 := by
  intro t ht
  rcases List.mem_append.1 ht with h | h
  · exact feed_attrs s t h
  · exact end_attrs _ t h
theorem atCells_count : ∀ ats : List At, countL (atCells ats) = 2 * ats.length
  | [] => rfl
  | a :: ats => by rw [atCells, countL, countL, Rw.count, Rw.count, atCells_count ats, List.length_cons]; omega
theorem rwA_count (v : Value) (ats : List At) : (rwA v ats).count = 2 * ats.length := by rw [rwA, Rw.count, atCells_count]
theorem tkCells_count : ∀ {ts : List Tv}, (∀ p ∈ ts, p.1.attrs.length ≤ 4) → countL (tkCells ts) ≤ 11 * ts.length
  | [], _ => by rw [tkCells, countL]; exact Nat.zero_le _
  | p :: ts, h => by
    have ih := tkCells_count fun q hq => h q (List.mem_cons_of_mem _ hq)
    have h1 := h p List.mem_cons_self
    rw [tkCells, countL, countL, countL, countL, Rw.count, Rw.count, Rw.count, rwA_count, List.length_cons]; omega
theorem rwT_small {v : Value} {ts : List Tv} {l : List Tok} (h : ts.map Prod.fst = l) (ha : ∀ t ∈ l, t.attrs.length ≤ 4) : (rwT v ts).count ≤ 11 * l.length := by
  rw [rwT, Rw.count]
  subst h
  rw [List.length_map]
  exact tkCells_count fun p hp => ha p.1 (List.mem_map_of_mem hp)
theorem mark_is_read {x : Rw} {lo hi k hi' : Nat} {w : World} (h : (x.mark k).OwnR lo hi w) (hh : hi ≤ hi') : (x.mark k).ReadR hi' w := Rw.ReadR.mono hh _ (Rw.OwnR.reads _ h)
theorem own_read {x : Rw} {lo hi hi' : Nat} {w : World} (h : x.OwnR lo hi w) (hh : hi ≤ hi') : x.ReadR hi' w := Rw.ReadR.mono hh _ (Rw.OwnR.reads _ h)
/-- What another call owns is as it was when this call's own is written. -/
theorem own_apart {x y : Rw} {lo hi lo' hi' : Nat} {w w' : World} (h : x.OwnR lo hi w) (hy : y.OwnR lo' hi' w) (hh : hi ≤ lo') (ho : OnlyB y.blocks w w') : x.OwnR lo hi w' := by
  refine Rw.OwnR.only ho x h fun b hb hby => ?_
  have h1 := Rw.OwnR.lt x h b hb
  have h2 := Rw.OwnR.lt y hy b hby
  omega
theorem own_back {y : Rw} {lo hi : Nat} {w0 w w' : World} (hb : Below lo w0 w) (hy : y.OwnR lo hi w) (hl : lo ≤ w.heap.size) (ho : OnlyB y.blocks w w') : Below lo w0 w' :=
  hb.trans (ho.below (fun b hbm => (Rw.OwnR.lt y hy b hbm).1) hl)
theorem optL_nodup (o : Option Nat) : o.toList.Nodup := by cases o <;> simp
/-- What TagOf answers, in letters. -/
theorem tagOut_all {s : ByteArray} {w : World} {e : Ending} {w' : World} (h : TagOut s w e w') :
    ∃ a n c, e = .returned (.tuple #[.agg #[.int .i64 (tagT s).kind, .string (tagT s).name, .slice a n c, .string (tagT s).text], .bool (tagOk s)]) ∧ OwnK encA 2 104 w.heap.size w'.heap.size w' (.slice a n c) (tagT s).attrs ∧ Below w.heap.size w w' := by
  obtain ⟨⟨a, n, c⟩, he, ho, hb⟩ := h
  exact ⟨a, n, c, he, ho, hb⟩

/- Bl -/
open Go.ChangeShapes Go.WideShapes Go.ChangeAt Go.RowKit

theorem bl_tr {w X w' : World} (h : Below w.heap.size w X) (k : Below X.heap.size X w') : Below w.heap.size w w' := h.trans (k.mono h.size)
theorem bl_via {B : Nat} {w0 w X : World} (h : Below B w0 w) (hB : B ≤ w.heap.size) (k : Below w.heap.size w X) : Below B w0 X := h.trans (k.mono hB)
theorem bl_dw {B : Nat} {w w' : World} (h : Below B w w') : Below B w w'.drew := h.drew
theorem bl_aw {w w' : World} (h : Below w.heap.size w w') (o : Obj) : Below w.heap.size w (w'.alloc o) := h.alloc h.size o
theorem hq_dr {w : World} {g : Nat} {o : Obj} (h : w.heap[g]? = some o) : w.drew.heap[g]? = some o := h
theorem hq_nw {w : World} {g : Nat} {o : Obj} (h : w.heap.size = g) : (w.alloc o).heap[g]? = some o := by subst h; exact (MapKept.heap_alloc w o).1

/- LawBd -/
open Go.ChangeShapes Go.WideShapes Go.ChangeAt Go.RowKit

/- LawA -/
open Go.ChangeShapes Go.WideShapes Go.ChangeAt Go.RowKit

/- LawB -/
open Go.ChangeShapes Go.WideShapes Go.ChangeAt Go.RowKit

theorem tkCells_cnt : ∀ ts : List Tv, countL (tkCells ts) = tkW (ts.map Prod.fst)
  | [] => rfl
  | p :: ts => by
    rw [tkCells, countL, countL, countL, countL, Rw.count, Rw.count, Rw.count, rwA, Rw.count, atCells_count', tkCells_cnt ts, List.map_cons, tkW]; omega
theorem rwT_cnt (v : Value) (ts : List Tv) : (rwT v ts).count = tkW (ts.map Prod.fst) := by rw [rwT, Rw.count, tkCells_cnt]
theorem tkCells_w : ∀ ts : List Tv, tkW (ts.map Prod.fst) ≤ 3 * ts.length + 2 * weightL (tkCells ts)
  | [] => Nat.le_refl _
  | p :: ts => by
    have := tkCells_w ts
    rw [tkCells, weightL, weightL, weightL, weightL, rwA, Rw.weight, Rw.weight, Rw.weight, Rw.weight, List.map_cons, tkW, List.length_cons]; omega
theorem rwT_w (v : Value) (ts : List Tv) : tkW (ts.map Prod.fst) ≤ 3 * (rwT v ts).weight := by
  have := tkCells_w ts
  rw [rwT, Rw.weight]; omega

/-- What AddTokens answers, with the places of all that it made. -/
def AddsForm (b : Bd) (ts : List Tok) (X : World) (e : Ending) (w' : World) : Prop :=
  ∃ na nn nc oa on oc ns, e = .returned (.agg #[.slice na nn nc, .slice oa on oc]) ∧ ns.map Prod.fst = (addToks b ts).nodes ∧ BdM X.heap.size X w' (.slice na nn nc) (.slice oa on oc) ns (addToks b ts).opn
theorem addsForm {b : Bd} {ts : List Tok} {X w' : World} {e : Ending} (h : AddsOut b ts X e w') : AddsForm b ts X e w' := by
  obtain ⟨nv, ov, he, hb⟩ := h
  obtain ⟨na, nn, nc, oa, on, oc, rfl, rfl⟩ := hb.lens
  obtain ⟨ns, hns, hm, ho⟩ := hb
  exact ⟨na, nn, nc, oa, on, oc, ns, he, hns, ⟨hm, ho⟩⟩

theorem ownTs {lo hi : Nat} {w : World} {y : Rw} {u : Value} {ts : List Tv} (d : y.data = (rwT u ts).data) (h : OwnRL lo hi w [y]) : ∃ tvs : List Tv, tvs.map Prod.fst = ts.map Prod.fst ∧ ReadT w.heap.size w y.cell tvs := toks_of_data d (rd_of (ownL_one.1 h))

theorem addsS_any {X : World} {nv ov lv : Value} {b : Bd} {ts : List Tok} (hb : BdIn X.heap.size X nv ov b) (ht : ∃ tvs : List Tv, tvs.map Prod.fst = ts ∧ ReadT X.heap.size X lv tvs) (hf : ndW b.nodes + tkW ts ≤ 68719476736) (hfo : b.opn.length ≤ 68719476736) :
    Calls Try.prog 15 #[.agg #[nv, ov], lv] X (AddsForm b ts X) := by
  obtain ⟨tvs, h1, h2⟩ := ht
  exact (adds_spec nv ov b lv tvs ts h1 X hb h2 hf hfo).mono fun _ _ h => addsForm h

theorem addsI_any {X : World} {nv ov lv : Value} {b : Bd} {ts : List Tok} (hb : BdIn X.heap.size X nv ov b) (ht : ∃ tvs : List Tv, tvs.map Prod.fst = ts ∧ ReadT X.heap.size X lv tvs) (hf : ndW b.nodes + tkW ts ≤ 68719476736) (hfo : b.opn.length ≤ 68719476736) :
    Calls Try.prog 14 #[.agg #[nv, ov], lv] X (AddsForm b ts X) := by
  obtain ⟨tvs, h1, h2⟩ := ht
  exact (adds_impl nv ov b lv tvs ts h1 X hb h2 hf hfo).mono fun _ _ h => addsForm h

/- NewB -/
open Go.ChangeShapes Go.WideShapes Go.ChangeAt Go.RowKit

/-- What NewBuilder answers, with the places of all that it made. -/
def NewForm (X : World) (e : Ending) (w' : World) : Prop :=
  ∃ na nn nc oa on oc ns, e = .returned (.agg #[.slice na nn nc, .slice oa on oc]) ∧ ns.map Prod.fst = bdNew.nodes ∧ BdM X.heap.size X w' (.slice na nn nc) (.slice oa on oc) ns bdNew.opn
theorem lit_row {w : World} {e : TypeId} {k B g : Nat} {cs : Array Value} (h : w.heap[g]? = some (.cells cs e (0, 0))) (hk : cs.size = k) (hB : B ≤ g) : w.ownsRow B e k (.slice (some ⟨g, 0, none⟩) 1 1) 1 cs.toList :=
  ⟨by rw [Nat.one_mul, Array.length_toList, hk], Or.inr ⟨g, 1, cs, rfl, hB, h, Nat.le_refl _, by decide, by rw [Nat.one_mul, hk], by rw [Nat.one_mul, ← hk, ← Array.length_toList, List.take_length]⟩⟩
abbrev nvNew : Nv := (⟨sPage, ⟨#[]⟩, -1, []⟩, svNil)
theorem new_made (w : World) : BdM w.heap.size w (((w.alloc (.cells #[.slice (some ⟨w.heap.size + 1, 0, none⟩) 1 1, .slice (some ⟨w.heap.size + 2, 0, none⟩) 1 1] 27)).alloc (.cells #[.string ⟨#[112, 97, 103, 101]⟩, .string ⟨#[]⟩, .int .i64 (-1), .slice none 0 0] 64)).alloc (.cells #[.int .i64 0] 3)) (.slice (some ⟨w.heap.size + 1, 0, none⟩) 1 1) (.slice (some ⟨w.heap.size + 2, 0, none⟩) 1 1) [nvNew] [0] := by
  have hB : Below w.heap.size w (((w.alloc (.cells #[.slice (some ⟨w.heap.size + 1, 0, none⟩) 1 1, .slice (some ⟨w.heap.size + 2, 0, none⟩) 1 1] 27)).alloc (.cells #[.string ⟨#[112, 97, 103, 101]⟩, .string ⟨#[]⟩, .int .i64 (-1), .slice none 0 0] 64)).alloc (.cells #[.int .i64 0] 3)) := (((Below.refl _ _).alloc (Nat.le_refl _) _).alloc (by rw [size_alloc]; omega) _).alloc (by rw [size_alloc, size_alloc]; omega) _
  have h1 := three_new1 w (.cells #[.slice (some ⟨w.heap.size + 1, 0, none⟩) 1 1, .slice (some ⟨w.heap.size + 2, 0, none⟩) 1 1] 27) (.cells #[.string ⟨#[112, 97, 103, 101]⟩, .string ⟨#[]⟩, .int .i64 (-1), .slice none 0 0] 64) (.cells #[.int .i64 0] 3)
  have h2 := three_new2 w (.cells #[.slice (some ⟨w.heap.size + 1, 0, none⟩) 1 1, .slice (some ⟨w.heap.size + 2, 0, none⟩) 1 1] 27) (.cells #[.string ⟨#[112, 97, 103, 101]⟩, .string ⟨#[]⟩, .int .i64 (-1), .slice none 0 0] 64) (.cells #[.int .i64 0] 3)
  refine ⟨⟨⟨?_, hB, hB.size⟩, fun p hp => ?_, by simp [insN, nvNew, sv, svNil, Value.ownBlock]⟩, ⟨?_, hB, hB.size⟩⟩
  · exact lit_row (k := 4) h1 rfl (by omega)
  · rw [List.mem_singleton] at hp; subst hp; exact ownK_nil _ _ _ _ _ _
  · exact lit_row (k := 1) h2 rfl (by omega)

set_option maxHeartbeats 1000000 in
theorem new_spec (w : World) : Calls Try.prog 62 #[] w (NewForm w) := by
  have HO := Lib.hid (new_made w)
  go_enter Try.func62, Try.ntmps62
  go_wp2_with fail
  refine bodyPost_ret (v := .agg #[.slice (some ⟨w.heap.size + 1, 0, none⟩) 1 1, .slice (some ⟨w.heap.size + 2, 0, none⟩) 1 1]) (by simp [results, Try.results62, go_sem]) rfl ?_
  exact ⟨_, _, _, _, _, _, [nvNew], rfl, rfl, HO.out⟩

/- DrawBd -/
open Go.ChangeShapes Go.WideShapes Go.ChangeAt Go.RowKit

theorem tkW_four : ∀ ts : List Tok, (∀ t ∈ ts, t.attrs.length ≤ 4) → tkW ts ≤ 11 * ts.length
  | [], _ => Nat.le_refl _
  | t :: ts, h => by
    have h1 := h t List.mem_cons_self
    have h2 := tkW_four ts fun u hu => h u (List.mem_cons_of_mem _ hu)
    rw [tkW, List.length_cons]; omega
/-- The model's TokensOf, as a premise: what ToksS gives. -/
def ToksS : Prop := ∀ (s : ByteArray), s.size ≤ 536870912 → ∀ w : World, Calls Try.prog 23 #[.string s] w (ToksOut (tokensB s.data.toList) w)
set_option maxRecDepth 100000 in
set_option maxHeartbeats 2000000 in
theorem builder_any (HT : ToksS) (b : Nat) (sv : Value) (len : Nat) (w : World) (hc : Cur b sv len w) :
    Calls Try.prog 45 #[.pointer (some ⟨b, 0, none⟩)] w (BdGot b sv len w) := by
  have HC := Lib.hid hc; have HL := Lib.hid hc.lt; have HTK := Lib.hid HT; clear hc HT
  go_enter Try.func45, Try.ntmps45
  go_wp2_with fail
  refine (new_spec _).mono ?_
  rintro e w1 ⟨na, nn, nc, oa, on, oc, ns, rfl, hns, hM⟩
  have HNS := Lib.hid hns
  have hM0 := hM
  have hM := hM.down (bl_tr ((Below.refl w.heap.size w).alloc (Nat.le_refl _) _) hM.n.row.below) (by rw [size_alloc]; exact Nat.le_succ _)
  have HX1 := Lib.hid ((Box2.new w (.slice none 0 0) (.slice none 0 0)).below hM0.n.row.below (by rw [size_alloc]; exact Nat.lt_succ_self _))
  have HM := Lib.hid hM; have HC1 := Lib.hid (HC.out.below hM.n.row.below)
  have HK1 := Lib.hid (Kept.of_below (b := b) hM.n.row.below)
  clear hM hM0 hns
  go_wp2_with fail
  refine (page10_any b sv len _ HC1.out).mono ?_
  rintro e w2 ⟨s, rfl, hs, hc2, ho2⟩
  have HC2 := Lib.hid hc2; have HK2 := Lib.hid (HK1.out.trans ho2)
  have HM2 := Lib.hid (bdM_kept HM.out ho2 HL.out); have HX2 := Lib.hid (box_kept HX1.out ho2 (by have := HL.out; omega))
  have HS := Lib.hid (show s.size ≤ 6000 from hs)
  clear hc2 ho2 hs
  go_wp2_with fail
  refine (HTK.out s (by have := HS.out; omega) _).mono ?_
  rintro e w3 ⟨lv, tvs, rfl, hts, hT⟩
  obtain ⟨la, lc, rfl⟩ := hT.row.own.slice
  have HTS := Lib.hid hts; have HT3 := Lib.hid hT
  have HC3 := Lib.hid (HC2.out.below hT.row.below)
  have HK3 := Lib.hid (HK2.out.trans (Kept.of_below (b := b) hT.row.below))
  have HM3 := Lib.hid (HM2.out.later hT.row.below); have HX3 := Lib.hid (HX2.out.below hT.row.below HX2.out.lt)
  clear hts hT
  go_wp2_with fail
  refine (addsS_any (b := bdNew) (ts := tokensB s.data.toList) (HM3.out.reads HNS.out) ⟨tvs, HTS.out, HT3.out.reads (Nat.le_refl _)⟩ ?_ (by decide)).mono ?_
  · have h1 := tkW_four _ (tokens_attrs s.data.toList)
    have h2 := tokens_size s.data.toList
    rw [size_list] at h2
    have h3 := HS.out
    have h4 : ndW bdNew.nodes ≤ 100 := by decide
    omega
  rintro e w4 ⟨na4, nn4, nc4, oa4, on4, oc4, ns4, rfl, hns4, hM4⟩
  have HC4 := Lib.hid (HC3.out.below hM4.n.row.below)
  have HK4 := Lib.hid (HK3.out.trans (Kept.of_below (b := b) hM4.n.row.below))
  have HM4 := Lib.hid (hM4.down (Below.refl _ w4) (B' := w.heap.size) (w0' := w4) HK3.out.size)
  have HOK := Lib.hid (show BdOk 6000 ⟨ns4.map Prod.fst, (addToks bdNew (tokensB s.data.toList)).opn⟩ by
    rw [hns4]
    refine bdOk_adds _ _ (bdOk_new _) fun t ht => ?_
    have h1 := tokens_text_le s.data.toList t ht
    rw [size_list] at h1
    have h3 := HS.out
    exact ⟨by omega, tokens_attrs s.data.toList t ht, tokens_name_le s.data.toList t ht⟩)
  obtain ⟨⟨c0, c1⟩, f0, f1⟩ := (HX3.out.below hM4.n.row.below HX3.out.lt).cells
  have HX4 := Lib.hid (HX3.out.below hM4.n.row.below HX3.out.lt)
  clear hM4 hns4
  go_wp2_with fail
  obtain ⟨⟨r0, r1⟩, -⟩ := ((HX4.out.set0 (.slice na4 nn4 nc4)).set1 (.slice oa4 on4 oc4)).cells
  refine bodyPost_ret (v := .agg #[.slice na4 nn4 nc4, .slice oa4 on4 oc4]) (by simp [results, Try.results45, go_sem, r0, r1]) rfl ?_
  exact ⟨na4, nn4, nc4, oa4, on4, oc4, ns4, _, rfl, HOK.out, ((HM4.out.setT HX4.out (Nat.le_refl _)).setT (HX4.out.set0 _) (Nat.le_refl _)).down (Below.refl _ _) (Nat.le_refl _), cur_setB (cur_setB HC4.out HL.out _ _) HL.out _ _, kept_set (kept_set HK4.out (Nat.le_refl _) _ _) (Nat.le_refl _) _ _⟩
end Go.Proofs.Ytiginllbfjekeaa

/- Slices of strings in memory: what it means that a slice value reads as a list of strings, as data; what an argument of this type is. Helper facts, no claim of its own. -/
import Derived.Test.YtkjjiinccljhjaaDoorDpStr
import Derived.Test.YtkjjiinccljhjaaDoorEs
import Derived.Test.YtkjjiinccljhjaaDoorRawL
import Derived.Test.YtkjjiinccljhjaaDoorRowReads
import Derived.Test.YtkjjiinccljhjaaDoorCl
import Derived.Deep.Slices
import Derived.Lib.SmallJoins
import Derived.ShutString
import Derived.ChangeOld
import Derived.Carry
import Derived.Deep.Fields
namespace Go.Proofs.YtkjjiinccljhjaaDoor
open Go.ChangeShapes Go.WideShapes Go.ChangeAt Go.RowKit Go.Joins Go.Deep

def stCells (xs : List ByteArray) : List Rw := xs.map fun s => .leaf (.string s)
/-- A slice of strings. -/
def rwSs (v : Value) (xs : List ByteArray) : Rw := .sl v xs.length 1 9 (stCells xs)
theorem rwSs_cell (v : Value) (xs : List ByteArray) : (rwSs v xs).cell = v := rfl
theorem flatS (xs : List ByteArray) : xs.flatMap encS = xs.map Value.string := by
  induction xs with
  | nil => rfl
  | cons x xs ih => rw [List.flatMap_cons, ih]; rfl
theorem stCells_map (xs : List ByteArray) : (stCells xs).map Rw.cell = xs.flatMap encS := by
  rw [flatS]; unfold stCells; rw [List.map_map]; rfl
theorem stCells_len (xs : List ByteArray) : (stCells xs).length = xs.length := by unfold stCells; rw [List.length_map]
theorem stCells_at {xs : List ByteArray} {j : Nat} {a : ByteArray} (h : xs[j]? = some a) : (stCells xs)[j]? = some (.leaf (.string a)) := by
  unfold stCells; rw [List.getElem?_map, h]; rfl
theorem stCells_leaf {xs : List ByteArray} {c : Rw} (h : c ∈ stCells xs) : ∃ a, a ∈ xs ∧ c = .leaf (.string a) := by
  obtain ⟨a, ha, rfl⟩ := List.mem_map.1 h
  exact ⟨a, ha, rfl⟩
theorem stCells_blocks (xs : List ByteArray) : blocksL (stCells xs) = [] := blocksL_nil fun c hc => by
  obtain ⟨s, _, rfl⟩ := stCells_leaf hc
  rw [Rw.blocks]
theorem rwSs_blocks (v : Value) (xs : List ByteArray) : (rwSs v xs).blocks = v.ownBlock.toList := by rw [rwSs, Rw.blocks, stCells_blocks, List.append_nil]
theorem rwSs_nodup (v : Value) (xs : List ByteArray) : (rwSs v xs).blocks.Nodup := by rw [rwSs_blocks]; cases v.ownBlock <;> simp
theorem rwSs_is (v : Value) (xs : List ByteArray) : IsStringS (rwSs v xs) :=
  ⟨v, xs.length, _, stCells xs, rfl, fun j hj => ⟨xs[j], stCells_at (List.getElem?_eq_getElem hj)⟩⟩
theorem rwSs_own {lo hi : Nat} {w : World} {v : Value} {xs : List ByteArray} (h : OwnK encS 1 9 lo hi w v xs) : (rwSs v xs).OwnR lo hi w := by
  rw [rwSs, Rw.OwnR]
  exact ⟨by rw [stCells_map]; exact h, ownRL_iff.2 fun c hc => by obtain ⟨s, _, rfl⟩ := stCells_leaf hc; rw [Rw.OwnR]; rfl⟩
theorem rwSs_reads {hi : Nat} {w : World} {v : Value} {xs : List ByteArray} (h : ReadsK encS 1 hi w v xs) : (rwSs v xs).ReadR hi w := by
  rw [rwSs, Rw.ReadR]
  have h0 := h
  obtain ⟨a, cap, rfl, h1, h2, h3, h4⟩ := h
  refine ⟨⟨a, cap, rfl, by rw [stCells_len, Nat.mul_one], h1, h2, h3, ?_⟩, readRL_iff.2 fun c hc => by obtain ⟨s, _, rfl⟩ := stCells_leaf hc; rw [Rw.ReadR]; rfl⟩
  rcases h4 with h4 | ⟨g, off, rfl, hg, hc⟩
  · exact Or.inl h4
  · refine Or.inr ⟨g, off, rfl, hg, fun j c hj => ?_⟩
    rw [stCells_map] at hj
    have := h0.news encS_len j c hj
    rwa [add_off] at this
theorem rwSs_data (v u : Value) (xs : List ByteArray) : (rwSs v xs).data = (rwSs u xs).data := by rw [rwSs, rwSs, Rw.data, Rw.data]
theorem strs_of_data {x : Rw} {u : Value} {xs : List ByteArray} {hi : Nat} {w : World} (h : x.data = (rwSs u xs).data) (hr : x.ReadR hi w) : ReadsK encS 1 hi w x.cell xs := by
  cases x with
  | leaf v => rw [rwSs, Rw.data, Rw.data] at h; cases h
  | sl v n k e cs =>
    rw [rwSs, Rw.data, Rw.data] at h
    obtain ⟨rfl, hd⟩ := Dt.sl.inj h
    have hl : cs.length = xs.length := by have := congrArg List.length hd; rwa [dataL_len, dataL_len, stCells_len] at this
    rw [Rw.ReadR] at hr
    obtain ⟨⟨a, cap, rfl, h1, h2, h3, h4, h5⟩, _⟩ := hr
    have hn : n = xs.length := by omega
    subst hn
    refine ⟨a, cap, rfl, h2, h3, h4, ?_⟩
    rcases h5 with h5 | ⟨g, off, rfl, hg, hc⟩
    · exact Or.inl h5
    · refine Or.inr ⟨g, off, rfl, hg, fun j y hj i hi' => ?_⟩
      have hjl := (List.getElem?_eq_some_iff.1 hj).1
      obtain rfl : i = 0 := by omega
      obtain ⟨c, hcm⟩ : ∃ c, cs[j]? = some c := ⟨_, List.getElem?_eq_getElem (by omega)⟩
      have e1 := leaf_of_data (data_same hd hcm (stCells_at hj))
      rw [Nat.mul_one]
      refine hc j _ ?_
      rw [List.getElem?_map, hcm, e1]; rfl
theorem sum_le_at {xs : List ByteArray} {s : ByteArray} (h : s ∈ xs) : s.size ≤ (xs.map ByteArray.size).sum := by
  induction xs with
  | nil => cases h
  | cons x xs ih =>
    rw [List.map_cons, List.sum_cons]
    rcases List.mem_cons.1 h with e | h
    · rw [e]; omega
    · have := ih h; omega
def sumSt (xs : List ByteArray) : Nat := (xs.map ByteArray.size).sum
theorem stCells_weight : ∀ xs : List ByteArray, weightL (stCells xs) = sumSt xs
  | [] => rfl
  | x :: xs => by
    have h := stCells_weight xs
    unfold stCells at h ⊢
    rw [List.map_cons, weightL, Rw.weight, h, sumSt, sumSt, List.map_cons, List.sum_cons]; rfl
theorem rwSs_weight (v : Value) (xs : List ByteArray) : (rwSs v xs).weight = xs.length + sumSt xs := by rw [rwSs, Rw.weight, stCells_weight]
theorem stCells_count : ∀ xs : List ByteArray, countL (stCells xs) = xs.length
  | [] => rfl
  | x :: xs => by
    have h := stCells_count xs
    unfold stCells at h ⊢
    rw [List.map_cons, countL, Rw.count, h, List.length_cons]; omega
theorem rwSs_count (v : Value) (xs : List ByteArray) : (rwSs v xs).count = xs.length := by rw [rwSs, Rw.count, stCells_count]
theorem rwSs_small {v : Value} {xs : List ByteArray} (h : ∀ s ∈ xs, s.size ≤ 9223372036854775807) : (rwSs v xs).Small := by
  rw [rwSs, Rw.Small]
  refine smallL_iff.2 fun c hc => ?_
  obtain ⟨a, ha, rfl⟩ := stCells_leaf hc
  rw [Rw.Small]; exact h a ha
/-- A slice of strings that came in. -/
def IsSts (w : World) (v : Value) (xs : List ByteArray) : Prop := ReadsK encS 1 w.heap.size w v xs ∧ ∀ s ∈ xs, s.size ≤ 9223372036854775807
theorem IsSts.form {w : World} {v : Value} {xs : List ByteArray} (h : IsSts w v xs) : ∃ a n c, v = .slice a n c := by
  obtain ⟨⟨a, cap, rfl, _⟩, _⟩ := h
  exact ⟨a, _, cap, rfl⟩

set_option maxRecDepth 100000 in
theorem strs_of {H : Type} {enc : TypeId × Value → H} {W : World} {fuel : Nat} {v : Value} {d : DataW H × List MemPlace} (hf : DataW.trod enc Tryd.prog W 0 (fun _ => true) true fuel 24 [v] = some d) :
    ∃ xs, IsSts W v xs := by
  rcases open_slice Tryd.underlying24 hf with ⟨hcs, _⟩ | ⟨x, len, cap, m, n, D, Pl, hcs, _, hl, hc, hm, _, hel⟩
  · obtain rfl : v = .slice none 0 0 := by simpa using hcs
    exact ⟨[], ⟨none, 0, rfl, Nat.le_refl _, by omega, (fun _ => rfl), Or.inl rfl⟩, by simp⟩
  · obtain rfl : v = .slice (some x) len cap := by simpa using hcs
    simp only [if_true] at hm
    subst hm
    have hstr : Tryd.prog.cellsOf 9 = 1 := by kernel_rfl
    rw [hstr] at hel
    have hx : ∀ i, i < len → ∃ s : ByteArray, W.cell? (x.add i) = some (.string s) ∧ s.size ≤ 9223372036854775807 := by
      intro i hi
      obtain ⟨cs, h1, h2⟩ := hel i (by omega)
      obtain ⟨hlen, hat⟩ := cells?_at h1
      obtain ⟨t, e1, _, w1⟩ := DataW.trod_string Tryd.underlying9 h2
      subst e1
      have g0 := hat 0 (by omega)
      rw [add_add] at g0
      simp at g0
      exact ⟨t, g0, w1⟩
    obtain ⟨f, hf⟩ := choose_lt hx
    refine ⟨(List.range len).map f, ⟨some x, _, by rw [List.length_map, List.length_range], by simpa using hl, by unfold maxLen at hc; omega, (fun h => by cases h), ?_⟩, ?_⟩
    · by_cases h0 : len = 0
      · exact Or.inl (by simpa using h0)
      · obtain ⟨blk, off, spot⟩ := x
        have c0 := (hf 0 (by omega)).1
        have hspot : spot = none := by simpa [Addr.add] using World.cell?_spot c0
        subst hspot
        have hlt : blk < W.heap.size := by
          have := World.block_lt_of_cell? W _ c0
          rwa [add_off] at this
        refine Or.inr ⟨blk, off, rfl, hlt, fun j y hj i hi' => ?_⟩
        have hjl : j < len := by have := (List.getElem?_eq_some_iff.1 hj).1; simpa using this
        simp [hjl] at hj
        subst hj
        obtain ⟨g0, _⟩ := hf j hjl
        rw [add_off] at g0
        obtain rfl : i = 0 := by omega
        rw [Nat.add_zero, Nat.mul_one]; exact g0
    · intro r hr
      obtain ⟨i, hi, rfl⟩ := List.mem_map.1 hr
      exact (hf i (List.mem_range.1 hi)).2

theorem strs_arg {H : Type} {enc : TypeId × Value → H} {W : World} {v : Value} {d : DataW H} {p : List MemPlace} (hv : ∃ a n c, v = .slice a n c) (h : DataW.Trod enc Tryd.prog W 0 (fun _ => true) true 24 v d p) : ∃ xs, IsSts W v xs := by
  obtain ⟨a, n, c, rfl⟩ := hv
  obtain ⟨fuel, hf⟩ := h
  exact strs_of hf

/-- A struct whose fields are one cell each, by value, opened: each field's cell reads at its type. -/
theorem open_fields {P : Program} {H : Type} {enc : TypeId × Value → H} {w : World} {base : Nat} {spare : Nat → Bool} {held : Bool} {r : Reach} {b0 : Nat} {t : TypeId} {fs : Array Field} {v : Value} {d : DataW H} {p : List MemPlace} (hs : P.underlying t = some (.struct fs)) (hone : oneCellFields P fs = true) (hC : P.cellsOf t = fs.size)
    (hv : Value.okWide P w r b0 t v) (h : DataW.Trod enc P w base spare held t v d p) :
    ∃ (cs : Array Value) (m : Nat), v = .agg cs ∧ cs.size = fs.size ∧ ∀ (i : Nat) (f : Field), fs[i]? = some f → ∃ c y, cs[i]? = some c ∧ DataW.trod enc P w base spare held m f.type [c] = some y := by
  obtain ⟨cs, rfl, hsz⟩ := okWide_struct hs hv
  obtain ⟨fuel, hf⟩ := h
  obtain ⟨ys, n, _, _, hl, hlen, hat⟩ := DataW.trod_struct hs hf
  refine ⟨cs, n, rfl, hsz.trans hC, fun i f hi => ?_⟩
  obtain ⟨o, k⟩ := hone_of hone i f hi
  have hil : i < fs.size := (Array.getElem?_eq_some_iff.1 hi).1
  have hic : i < cs.size := by omega
  obtain ⟨y, hy⟩ : ∃ y, ys[i]? = some y := ⟨_, List.getElem?_eq_getElem (by omega)⟩
  refine ⟨cs[i], y, Array.getElem?_eq_getElem hic, ?_⟩
  have := hat i f hi
  rw [o, k, hy] at this
  rw [← this]
  congr 1
  show [cs[i]] = (((Value.agg cs).cells.toList).drop i).take 1
  rw [show (Value.agg cs).cells = cs from rfl, List.drop_eq_getElem_cons (by rw [Array.length_toList]; exact hic)]
  simp
end Go.Proofs.YtkjjiinccljhjaaDoor

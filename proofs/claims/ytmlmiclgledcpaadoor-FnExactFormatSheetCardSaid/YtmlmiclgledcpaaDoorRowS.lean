/- What a sheet, and a slice of sheets, that came in is, for the walks. Helper facts, no claim of its own. -/
import Derived.Test.YtmlmiclgledcpaaDoorRowT
import Derived.Test.YtmlmiclgledcpaaDoorRowReads
import Derived.Test.YtmlmiclgledcpaaDoorSh
namespace Go.Proofs.YtmlmiclgledcpaaDoor
open Go.ChangeShapes Go.WideShapes Go.ChangeAt Go.RowKit Go.Joins Go.Deep

theorem slice_in {P : Program} {H : Type} {enc : TypeId × Value → H} {w : World} {base : Nat} {spare : Nat → Bool} {held : Bool} {t e : TypeId} {fuel : Nat} {v : Value} {x : DataW H × List MemPlace} (ht : P.underlying t = some (.slice e)) (h : DataW.trod enc P w base spare held fuel t [v] = some x) : ∃ a len cap, v = .slice a len cap := by
  rcases open_slice ht h with ⟨hcs, _⟩ | ⟨a, l, c, _, _, _, _, hcs, _⟩
  · exact ⟨none, 0, 0, by simpa using hcs⟩
  · exact ⟨some a, l, c, by simpa using hcs⟩
instance : Inhabited Shv := ⟨([], svNil)⟩
/-- A slice of rules that came in. -/
def IsRus (w : World) (v : Value) (rs : List Ru) : Prop := ReadsK encU 2 w.heap.size w v rs ∧ ∀ r ∈ rs, RuOk r
set_option maxRecDepth 100000 in
theorem rules_of {H : Type} {enc : TypeId × Value → H} {W : World} {fuel : Nat} {v : Value} {d : DataW H × List MemPlace} (hf : DataW.trod enc Tryd.prog W 0 (fun _ => true) true fuel 29 [v] = some d) :
    ∃ rs, IsRus W v rs := by
  rcases open_slice Tryd.underlying29 hf with ⟨hcs, _⟩ | ⟨x, len, cap, m, n, D, Pl, hcs, _, hl, hc, hm, _, hel⟩
  · obtain rfl : v = .slice none 0 0 := by simpa using hcs
    exact ⟨[], ⟨none, 0, rfl, Nat.le_refl _, by omega, (fun _ => rfl), Or.inl rfl⟩, by simp⟩
  · obtain rfl : v = .slice (some x) len cap := by simpa using hcs
    simp only [if_true] at hm
    subst hm
    have hC : Tryd.prog.cellsOf 57 = 2 := by kernel_rfl
    rw [hC] at hel
    have hstr : Tryd.prog.cellsOf 9 = 1 := by kernel_rfl
    have hint : Tryd.prog.cellsOf 3 = 1 := by kernel_rfl
    have hx : ∀ i, i < len → ∃ y : Ru, W.cell? (x.add (i * 2)) = some (.string y.1) ∧ W.cell? (x.add (i * 2 + 1)) = some (.int .i64 y.2) ∧ RuOk y := by
      intro i hi
      obtain ⟨cs, h1, h2⟩ := hel i (by omega)
      obtain ⟨hlen, hat⟩ := cells?_at h1
      obtain ⟨y0, y1, n', _, _, t0, t1⟩ := trod_struct2 Tryd.underlying57 h2
      obtain ⟨s, e0, _, w0⟩ := DataW.trod_string Tryd.underlying9 t0
      obtain ⟨t, e1, _, w1⟩ := DataW.trod_int Tryd.underlying3 t1
      obtain ⟨c0, c1, rfl⟩ : ∃ c0 c1, cs = [c0, c1] := by
        rcases cs with _ | ⟨c0, _ | ⟨c1, _ | ⟨c2, cs⟩⟩⟩
        · cases hlen
        · cases hlen
        · exact ⟨c0, c1, rfl⟩
        · exact absurd (congrArg (fun n => n - 2) hlen) (by simp)
      simp [hstr, hint] at e0 e1
      have g0 := hat 0 (by omega)
      have g1 := hat 1 (by omega)
      rw [add_add] at g0 g1
      simp at g0 g1
      have hk := i64_range w1
      exact ⟨(s, t), by rw [g0, e0], by rw [g1, e1], w0, hk.1, hk.2⟩
    obtain ⟨f, hf⟩ := choose_lt hx
    refine ⟨(List.range len).map f, ⟨some x, _, by rw [List.length_map, List.length_range], by simpa using hl, by unfold maxLen at hc; omega, (fun h => by cases h), ?_⟩, ?_⟩
    · by_cases h0 : len = 0
      · exact Or.inl (by simpa using h0)
      · obtain ⟨blk, off, spot⟩ := x
        have c0 := (hf 0 (by omega)).1
        have hspot : spot = none := by simpa [Addr.add] using World.cell?_spot c0
        subst hspot
        have hlt : blk < W.heap.size := by
          have := World.block_lt_of_cell? W _ c0
          rwa [add_lit] at this
        refine Or.inr ⟨blk, off, rfl, hlt, fun j y hj i hi' => ?_⟩
        have hjl : j < len := by have := (List.getElem?_eq_some_iff.1 hj).1; simpa using this
        simp [hjl] at hj
        subst hj
        obtain ⟨g0, g1, _⟩ := hf j hjl
        rw [add_lit] at g0 g1
        rcases (show i = 0 ∨ i = 1 by omega) with rfl | rfl
        · rw [Nat.add_zero]; exact g0
        · rw [Nat.add_assoc]; exact g1
    · intro r hr
      obtain ⟨i, hi, rfl⟩ := List.mem_map.1 hr
      exact (hf i (List.mem_range.1 hi)).2.2

/-- A slice of sheets that came in. -/
def IsShs (w : World) (v : Value) (ss : List Shv) : Prop := ReadH w.heap.size w v ss ∧ ∀ p ∈ ss, ∀ r ∈ p.1, RuOk r
set_option maxRecDepth 100000 in
theorem sheet_of {H : Type} {enc : TypeId × Value → H} {W : World} {base : Nat} {v : Value} {d : DataW H} {p : List MemPlace} (hv : Value.okWide Tryd.prog W .any base 31 v) (h : DataW.Trod enc Tryd.prog W 0 (fun _ => true) true 31 v d p) :
    ∃ (a : Option Addr) (n c : Nat) (rs : List Ru), v = .agg #[.slice a n c] ∧ IsRus W (.slice a n c) rs := by
  obtain ⟨v0, y0, n, rfl, _, _, h0⟩ := open_agg1 Tryd.underlying31 (by kernel_rfl) (by kernel_rfl) hv h
  obtain ⟨a, l, c, rfl⟩ := slice_in Tryd.underlying29 h0
  obtain ⟨rs, hrs⟩ := rules_of (enc := enc) (W := W) h0
  exact ⟨a, l, c, rs, rfl, hrs⟩

theorem ruCells_small : ∀ {rs : List Ru}, (∀ r ∈ rs, RuOk r) → SmallL (ruCells rs)
  | [], _ => trivial
  | r :: rs, h => by
    have h1 := h r List.mem_cons_self
    rw [ruCells]
    refine smallL_iff.2 fun c hc => ?_
    rcases List.mem_cons.1 hc with e | hc
    · rw [e, Rw.Small]; exact h1.1
    rcases List.mem_cons.1 hc with e | hc
    · rw [e, Rw.Small]; exact Nat.zero_le _
    · exact smallL_iff.1 (ruCells_small fun q hq => h q (List.mem_cons_of_mem _ hq)) c hc
theorem rwU_small {v : Value} {rs : List Ru} (h : ∀ r ∈ rs, RuOk r) : (rwU v rs).Small := by rw [rwU, Rw.Small]; exact ruCells_small h
theorem rwH_small {v : Value} {ss : List Shv} (h : ∀ p ∈ ss, ∀ r ∈ p.1, RuOk r) : (rwH v ss).Small := by
  rw [rwH, Rw.Small]
  refine smallL_iff.2 fun c hc => ?_
  obtain ⟨p, hp, rfl⟩ := shCells_mem c hc
  exact rwU_small (h p hp)
/-- How many rules there are, by the weight. -/
theorem ruCells_weight : ∀ rs : List Ru, weightL (ruCells rs) = (rs.map fun r => r.1.size).sum
  | [] => rfl
  | r :: rs => by
    have h1 : (Rw.leaf (.int .i64 r.2)).weight = 0 := rfl
    rw [ruCells, weightL, weightL, ruCells_weight rs, h1, Nat.zero_add, List.map_cons, List.sum_cons]; rfl
theorem rwU_weight (v : Value) (rs : List Ru) : (rwU v rs).weight = rs.length + (rs.map fun r => r.1.size).sum := by rw [rwU, Rw.weight, ruCells_weight]
theorem shCells_weight : ∀ ss : List Shv, (flatR ss).length ≤ weightL (shCells ss)
  | [] => Nat.le_refl _
  | p :: ss => by
    have ih := shCells_weight ss
    rw [shCells, weightL, rwU_weight]
    rw [flatR, List.flatMap_cons, List.length_append]
    rw [flatR] at ih
    omega
theorem rwH_weight (v : Value) (ss : List Shv) : ss.length ≤ (rwH v ss).weight ∧ (flatR ss).length ≤ (rwH v ss).weight := by
  rw [rwH, Rw.weight]
  have := shCells_weight ss
  exact ⟨Nat.le_add_right _ _, by omega⟩
theorem rules_flat {ss : List Shv} {p : Shv} (h : p ∈ ss) : p.1.length ≤ (flatR ss).length := by
  induction ss with
  | nil => cases h
  | cons q ss ih =>
    rw [flatR, List.flatMap_cons, List.length_append]
    rcases List.mem_cons.1 h with rfl | h
    · exact Nat.le_add_right _ _
    · have := ih h; rw [flatR] at this; omega
/-- What the laws' walks need of sheets: few, in range. -/
structure ShsOk (ss : List Shv) : Prop where
  len : ss.length ≤ 1048576
  tot : (flatR ss).length ≤ 1048576
  ok : ∀ p ∈ ss, ∀ r ∈ p.1, RuOk r
theorem ShsOk.each {ss : List Shv} (h : ShsOk ss) : ∀ p ∈ ss, p.1.length ≤ 1099511627776 := fun _ hp => Nat.le_trans (rules_flat hp) (Nat.le_trans h.tot (by decide))
theorem ShsOk.of {ss us : List Shv} (h : ShsOk ss) (e : us.map Prod.fst = ss.map Prod.fst) : ShsOk us := by
  have hl : us.length = ss.length := by have := congrArg List.length e; simpa using this
  refine ⟨by rw [hl]; exact h.len, by rw [flatR_of e]; exact h.tot, fun p hp r hr => ?_⟩
  have hm : p.1 ∈ ss.map Prod.fst := by rw [← e]; exact List.mem_map_of_mem hp
  obtain ⟨q, hq, e2⟩ := List.mem_map.1 hm
  exact h.ok q hq r (by rw [e2]; exact hr)
theorem shsOk_of {v : Value} {ss : List Shv} (h : (rwH v ss).weight ≤ 1048576) (hok : ∀ p ∈ ss, ∀ r ∈ p.1, RuOk r) : ShsOk ss := by
  have := rwH_weight v ss
  exact ⟨by omega, by omega, hok⟩
end Go.Proofs.YtmlmiclgledcpaaDoor

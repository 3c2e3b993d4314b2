/- What a sheet, and a slice of sheets, that came in is, for the walks. Helper facts, no claim of its own. -/
import Derived.Test.YtpkicliimhflgaaRowT
import Derived.Test.YtpkicliimhflgaaRowReads
import Derived.Test.YtpkicliimhflgaaSh
namespace Go.Proofs.Ytpkicliimhflgaa
open Go.ChangeShapes Go.WideShapes Go.ChangeAt Go.RowKit Go.Joins Go.Deep

theorem slice_in {P : Program} {H : Type} {enc : TypeId × Value → H} {w : World} {base : Nat} {spare : Nat → Bool} {held : Bool} {t e : TypeId} {fuel : Nat} {v : Value} {x : DataW H × List MemPlace} (ht : P.underlying t = some (.slice e)) (h : DataW.trod enc P w base spare held fuel t [v] = some x) : ∃ a len cap, v = .slice a len cap := by
  rcases open_slice ht h with ⟨hcs, _⟩ | ⟨a, l, c, _, _, _, _, hcs, _⟩
  · exact ⟨none, 0, 0, by simpa using hcs⟩
  · exact ⟨some a, l, c, by simpa using hcs⟩
instance : Inhabited Shv := ⟨([], svNil)⟩
/-- A slice of rules that came in. -/
def IsRus (w : World) (v : Value) (rs : List Ru) : Prop := ReadsK encU 2 w.heap.size w v rs ∧ ∀ r ∈ rs, RuOk r
/-- A slice of sheets that came in. -/
def IsShs (w : World) (v : Value) (ss : List Shv) : Prop := ReadH w.heap.size w v ss ∧ ∀ p ∈ ss, ∀ r ∈ p.1, RuOk r
theorem ruCells_small : ∀ {rs : List Ru}, (∀ r ∈ rs, RuOk r) → SmallL (ruCells rs)
  | [], _ => trivial
  | r :: rs, h => by
    have h1 := h r List.mem_cons_self
    rw [ruCells]
    refine smallL_iff.2 fun c hc => ?_
    rcases List.mem_cons.1 hc with e | hc
    · rw [e, Rw.Small]; exact h1.1
    rcases List.mem_cons.1 hc with e | hc
    · rw [e, Rw.Small]; exact Nat.zero_le _
    · exact smallL_iff.1 (ruCells_small fun q hq => h q (List.mem_cons_of_mem _ hq)) c hc
/-- How many rules there are, by the weight. -/
theorem ruCells_weight : ∀ rs : List Ru, weightL (ruCells rs) = (rs.map fun r => r.1.size).sum
  | [] => rfl
  | r :: rs => by
    have h1 : (Rw.leaf (.int .i64 r.2)).weight = 0 := rfl
    rw [ruCells, weightL, weightL, ruCells_weight rs, h1, Nat.zero_add, List.map_cons, List.sum_cons]; rfl
theorem rules_flat {ss : List Shv} {p : Shv} (h : p ∈ ss) : p.1.length ≤ (flatR ss).length := by
  induction ss with
  | nil => cases h
  | cons q ss ih =>
    rw [flatR, List.flatMap_cons, List.length_append]
    rcases List.mem_cons.1 h with rfl | h
    · exact Nat.le_add_right _ _
    · have := ih h; rw [flatR] at this; omega
/-- What the laws' walks need of sheets: few, in range. -/
structure ShsOk (ss : List Shv) : Prop where
  len : ss.length ≤ 1048576
  tot : (flatR ss).length ≤ 1048576
  ok : ∀ p ∈ ss, ∀ r ∈ p.1, RuOk r
theorem ShsOk.each {ss : List Shv} (h : ShsOk ss) : ∀ p ∈ ss, p.1.length ≤ 1099511627776 := fun _ hp => Nat.le_trans (rules_flat hp) (Nat.le_trans h.tot (by decide))
theorem ShsOk.of {ss us : List Shv} (h : ShsOk ss) (e : us.map Prod.fst = ss.map Prod.fst) : ShsOk us := by
  have hl : us.length = ss.length := by have := congrArg List.length e; simpa using this
  refine ⟨by rw [hl]; exact h.len, by rw [flatR_of e]; exact h.tot, fun p hp r hr => ?_⟩
  have hm : p.1 ∈ ss.map Prod.fst := by rw [← e]; exact List.mem_map_of_mem hp
  obtain ⟨q, hq, e2⟩ := List.mem_map.1 hm
  exact h.ok q hq r (by rw [e2]; exact hr)
end Go.Proofs.Ytpkicliimhflgaa

/- ColorAt of model and program over copies that a law makes of its arguments. Helper facts, no claim of its own. -/
import Derived.Test.YtmlmiclgledcpaaColA
import Derived.Test.YtmlmiclgledcpaaLawS
import Derived.Test.YtmlmiclgledcpaaLawBd
namespace Go.Proofs.Ytmlmiclgledcpaa
open Go.ChangeShapes Go.WideShapes Go.ChangeAt Go.RowKit

theorem th_any {w X : World} {v : Value} {ss : List Shv} (hr : ReadH w.heap.size w v ss) (hl : (rwH v ss).weight ≤ 1048576) (hb : Below w.heap.size w X) :
    Calls Try.prog 29 #[v] X fun e w' => ∃ a n c us, e = .returned (.slice a n c) ∧ us.map Prod.fst = ss.map Prod.fst ∧ ReadH w'.heap.size w' (.slice a n c) us ∧ Below X.heap.size X w' := by
  refine (toH_one v ss X (rwH_reads (hr.up hb)) hl).mono ?_
  rintro e w' ⟨y, rfl, i0, d0, ho, _, hb'⟩
  obtain ⟨us, e1, h1⟩ := sheets_of_data d0 (rd_of (ownL_one.1 ho))
  obtain ⟨a, n, c, e0⟩ := sl_form (is_sl_SheetS i0) (Rw.OwnR.reads _ (ownL_one.1 ho))
  rw [e0] at h1
  exact ⟨a, n, c, us, by rw [e0], e1, h1, hb'⟩
theorem caS_data {x : Rw} {u nv ov : Value} {ss : List Shv} {b : Bd} {lo hi : Nat} {w : World} (h : x.data = (rwH u ss).data) (ho : x.OwnR lo hi w) (ok : ShsOk ss) (hb : BdIn w.heap.size w nv ov b) (z : Int) :
    Calls Try.prog 33 #[x.cell, .agg #[nv, ov], .int .i64 z] w fun e w' => e = .returned (.int .i64 (colAt (flatR ss) b.nodes 40 z)) ∧ Below w.heap.size w w' := by
  obtain ⟨us, e, hr⟩ := sheets_of_data h (rd_of ho)
  rw [← flatR_of e]
  exact colorAt_spec _ nv ov us b z w hr (ok.of e) hb
theorem caI_data {x : Rw} {u nv ov : Value} {ss : List Shv} {b : Bd} {lo hi : Nat} {w : World} (h : x.data = (rwH u ss).data) (ho : x.OwnR lo hi w) (ok : ShsOk ss) (hb : BdIn w.heap.size w nv ov b) (hnm : ∀ x ∈ b.nodes, x.name.size ≤ 9223372036854775807) (z : Int) :
    Calls Try.prog 35 #[x.cell, .agg #[nv, ov], .int .i64 z] w fun e w' => e = .returned (.int .i64 (colAt (flatR ss) b.nodes 40 z)) ∧ Below w.heap.size w w' := by
  obtain ⟨us, e, hr⟩ := sheets_of_data h (rd_of ho)
  rw [← flatR_of e]
  exact colorAt_impl _ nv ov us b z w hr (ok.of e) hb hnm
end Go.Proofs.Ytmlmiclgledcpaa

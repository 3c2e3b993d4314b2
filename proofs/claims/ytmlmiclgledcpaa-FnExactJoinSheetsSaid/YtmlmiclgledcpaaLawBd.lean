/- What walks of laws on builders share: a copy of a builder as a reading, what stays below. No claim of its own. -/
import Derived.Test.YtmlmiclgledcpaaRowN
import Derived.Test.YtmlmiclgledcpaaLawT
namespace Go.Proofs.Ytmlmiclgledcpaa
open Go.ChangeShapes Go.WideShapes Go.ChangeAt Go.RowKit

mutual
theorem count_data : ∀ (x y : Rw), x.data = y.data → x.count = y.count
  | .leaf v, .leaf u, _ => rfl
  | .leaf v, .sl u n k e cs, h => by rw [Rw.data, Rw.data] at h; cases h
  | .sl u n k e cs, .leaf v, h => by rw [Rw.data, Rw.data] at h; cases h
  | .sl v n k e cs, .sl u m j f ds, h => by
    rw [Rw.data, Rw.data] at h
    rw [Rw.count, Rw.count]
    exact countL_data cs ds (Dt.sl.inj h).2
theorem countL_data : ∀ (cs ds : List Rw), dataL cs = dataL ds → countL cs = countL ds
  | [], [], _ => rfl
  | [], d :: ds, h => by rw [dataL, dataL] at h; cases h
  | c :: cs, [], h => by rw [dataL, dataL] at h; cases h
  | c :: cs, d :: ds, h => by
    rw [dataL, dataL] at h
    obtain ⟨h1, h2⟩ := List.cons.inj h
    rw [countL, countL, count_data c d h1, countL_data cs ds h2]
end
theorem bl_tr {w X w' : World} (h : Below w.heap.size w X) (k : Below X.heap.size X w') : Below w.heap.size w w' := h.trans (k.mono h.size)
theorem bl_via {B : Nat} {w0 w X : World} (h : Below B w0 w) (hB : B ≤ w.heap.size) (k : Below w.heap.size w X) : Below B w0 X := h.trans (k.mono hB)

/-- A copy of a builder that came in, as a reading. -/
theorem tb_any {w X : World} {nv ov : Value} {ns : List Nv} {zs : List Int} (hr : ReadN w.heap.size w nv ns) (hi : Reads .i64 w.heap.size w ov zs) (hl : (rwN nv ns).weight ≤ 1048576) (hl2 : (rwI ov zs).weight ≤ 1048576) (hb : Below w.heap.size w X) :
    Calls Try.prog 34 #[.agg #[nv, ov]] X fun e w' => ∃ na nn nc oa on oc, e = .returned (.agg #[.slice na nn nc, .slice oa on oc]) ∧ BdIn w'.heap.size w' (.slice na nn nc) (.slice oa on oc) ⟨ns.map Prod.fst, zs⟩ ∧ Below X.heap.size X w' := by
  refine (toL_Builder (rwN nv ns) (rwI ov zs) X (rwN_is _ _) (rwN_reads ((hr.below hb (Nat.le_refl _)).mono hb.size)) (by omega) (rwI_is _ _) (rwI_reads.2 ((hi.below hb (Nat.le_refl _)).mono hb.size)) (by omega)).mono ?_
  rintro e w' ⟨y0, y1, rfl, i0, d0, i1, d1, ho, _, hb'⟩
  have h := bdIn_of d0 i1 d1 ho
  obtain ⟨na, nn, nc, e0⟩ := sl_form (is_sl_NodeS i0) (Rw.OwnR.reads _ (ownL_two.1 ho).1)
  obtain ⟨oa, on, oc, e1⟩ := sl_form (is_sl_IntS i1) (Rw.OwnR.reads _ (ownL_two.1 ho).2)
  rw [e0, e1] at h
  exact ⟨na, nn, nc, oa, on, oc, by rw [e0, e1], h, hb'⟩
theorem bl_dw {B : Nat} {w w' : World} (h : Below B w w') : Below B w w'.drew := h.drew
theorem bl_aw {w w' : World} (h : Below w.heap.size w w') (o : Obj) : Below w.heap.size w (w'.alloc o) := h.alloc h.size o
end Go.Proofs.Ytmlmiclgledcpaa

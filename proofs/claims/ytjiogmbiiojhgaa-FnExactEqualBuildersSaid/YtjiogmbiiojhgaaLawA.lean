/- What the walks of the laws on AddToken and AddTokens share: copies of arguments as readings, the calls of the program and of the model in one form, boxes. No claim of its own. -/
import Derived.Test.YtjiogmbiiojhgaaAddM
import Derived.Test.YtjiogmbiiojhgaaRowN
import Derived.Test.YtjiogmbiiojhgaaDpTokL
import Derived.Test.YtjiogmbiiojhgaaLawT
namespace Go.Proofs.Ytjiogmbiiojhgaa
open Go.ChangeShapes Go.WideShapes Go.ChangeAt Go.RowKit

mutual
theorem count_data : ∀ (x y : Rw), x.data = y.data → x.count = y.count
  | .leaf v, .leaf u, _ => rfl
  | .leaf v, .sl u n k e cs, h => by rw [Rw.data, Rw.data] at h; cases h
  | .sl u n k e cs, .leaf v, h => by rw [Rw.data, Rw.data] at h; cases h
  | .sl v n k e cs, .sl u m j f ds, h => by
    rw [Rw.data, Rw.data] at h
    rw [Rw.count, Rw.count]
    exact countL_data cs ds (Dt.sl.inj h).2
theorem countL_data : ∀ (cs ds : List Rw), dataL cs = dataL ds → countL cs = countL ds
  | [], [], _ => rfl
  | [], d :: ds, h => by rw [dataL, dataL] at h; cases h
  | c :: cs, [], h => by rw [dataL, dataL] at h; cases h
  | c :: cs, d :: ds, h => by
    rw [dataL, dataL] at h
    obtain ⟨h1, h2⟩ := List.cons.inj h
    rw [countL, countL, count_data c d h1, countL_data cs ds h2]
end
theorem bl_tr {w X w' : World} (h : Below w.heap.size w X) (k : Below X.heap.size X w') : Below w.heap.size w w' := h.trans (k.mono h.size)
theorem bl_via {B : Nat} {w0 w X : World} (h : Below B w0 w) (hB : B ≤ w.heap.size) (k : Below w.heap.size w X) : Below B w0 X := h.trans (k.mono hB)

/-- A copy of a builder that came in, as a reading. -/
theorem tb_any {w X : World} {nv ov : Value} {ns : List Nv} {zs : List Int} (hr : ReadN w.heap.size w nv ns) (hi : Reads .i64 w.heap.size w ov zs) (hl : (rwN nv ns).weight ≤ 1048576) (hl2 : (rwI ov zs).weight ≤ 1048576) (hb : Below w.heap.size w X) :
    Calls Try.prog 38 #[.agg #[nv, ov]] X fun e w' => ∃ na nn nc oa on oc, e = .returned (.agg #[.slice na nn nc, .slice oa on oc]) ∧ BdIn w'.heap.size w' (.slice na nn nc) (.slice oa on oc) ⟨ns.map Prod.fst, zs⟩ ∧ Below X.heap.size X w' := by
  refine (toL_Builder (rwN nv ns) (rwI ov zs) X (rwN_is _ _) (rwN_reads ((hr.below hb (Nat.le_refl _)).mono hb.size)) (by omega) (rwI_is _ _) (rwI_reads.2 ((hi.below hb (Nat.le_refl _)).mono hb.size)) (by omega)).mono ?_
  rintro e w' ⟨y0, y1, rfl, i0, d0, i1, d1, ho, _, hb'⟩
  have h := bdIn_of d0 i1 d1 ho
  obtain ⟨na, nn, nc, e0⟩ := sl_form (is_sl_NodeS i0) (Rw.OwnR.reads _ (ownL_two.1 ho).1)
  obtain ⟨oa, on, oc, e1⟩ := sl_form (is_sl_IntS i1) (Rw.OwnR.reads _ (ownL_two.1 ho).2)
  rw [e0, e1] at h
  exact ⟨na, nn, nc, oa, on, oc, by rw [e0, e1], h, hb'⟩
/-- A copy of a token that came in, as a reading. -/
theorem tt_any {w X : World} {kd : Int} {nm tx : ByteArray} {v : Value} {ats : List At} (hr : ReadsK encA 2 w.heap.size w v ats) (hl : (rwA v ats).weight ≤ 1048576) (hb : Below w.heap.size w X) :
    Calls Try.prog 40 #[.agg #[.int .i64 kd, .string nm, v, .string tx]] X fun e w' => ∃ ta tn tc, e = .returned (.agg #[.int .i64 kd, .string nm, .slice ta tn tc, .string tx]) ∧ ReadsK encA 2 w'.heap.size w' (.slice ta tn tc) ats ∧ Below X.heap.size X w' := by
  refine (toL_Token kd nm (rwA v ats) tx X (rwA_is _ _) (rwA_reads ((hr.below hb (Nat.le_refl _)).mono hb.size)) (by omega)).mono ?_
  rintro e w' ⟨y, rfl, i0, d0, ho, _, hb'⟩
  have h := attrs_of_data d0 (rd_of (ownL_one.1 ho))
  obtain ⟨ta, tn, tc, e0⟩ := sl_form (is_sl_AttrS i0) (Rw.OwnR.reads _ (ownL_one.1 ho))
  rw [e0] at h
  exact ⟨ta, tn, tc, by rw [e0], h, hb'⟩
theorem ownTk {lo hi : Nat} {w : World} {y : Rw} {v u : Value} {ats : List At} (d : y.data = (rwA u ats).data) (e : y.cell = v) (h : OwnRL lo hi w [y]) : ReadsK encA 2 w.heap.size w v ats := by
  subst e; exact attrs_of_data d (rd_of (ownL_one.1 h))
/-- What AddToken answers, with the places of all that it made. -/
def AddForm (b : Bd) (t : Tok) (X : World) (e : Ending) (w' : World) : Prop :=
  ∃ na nn nc oa on oc ns, e = .returned (.tuple #[.agg #[.slice na nn nc, .slice oa on oc], .int .i64 (addTok b t).2]) ∧ ns.map Prod.fst = (addTok b t).1.nodes ∧ BdM X.heap.size X w' (.slice na nn nc) (.slice oa on oc) ns (addTok b t).1.opn
theorem addForm {b : Bd} {t : Tok} {X w' : World} {e : Ending} (h : AddOut b t X e w') : AddForm b t X e w' := by
  obtain ⟨nv, ov, he, hb⟩ := h
  obtain ⟨na, nn, nc, oa, on, oc, rfl, rfl⟩ := hb.lens
  obtain ⟨ns, hns, hm, ho⟩ := hb
  exact ⟨na, nn, nc, oa, on, oc, ns, he, hns, ⟨hm, ho⟩⟩
theorem adds_any {X : World} {nv ov : Value} {b : Bd} {kd : Int} {nm tx : ByteArray} {ats : List At} {ta : Option Addr} {tn tc : Nat} (hb : BdIn X.heap.size X nv ov b) (hf : Fits b) (ht : ReadsK encA 2 X.heap.size X (.slice ta tn tc) ats) (hta : ats.length ≤ 1048576) :
    Calls Try.prog 16 #[.agg #[nv, ov], .agg #[.int .i64 kd, .string nm, .slice ta tn tc, .string tx]] X (AddForm b ⟨kd, nm, ats, tx⟩ X) :=
  (add_spec nv ov b ⟨kd, nm, ats, tx⟩ ta tn tc X hb hf ht (by show ats.length ≤ _; omega)).mono fun _ _ h => addForm h
theorem addi_any {X : World} {nv ov : Value} {b : Bd} {kd : Int} {nm tx : ByteArray} {ats : List At} {ta : Option Addr} {tn tc : Nat} (hb : BdIn X.heap.size X nv ov b) (hf : Fits b) (ht : ReadsK encA 2 X.heap.size X (.slice ta tn tc) ats) (hta : ats.length ≤ 1048576) :
    Calls Try.prog 15 #[.agg #[nv, ov], .agg #[.int .i64 kd, .string nm, .slice ta tn tc, .string tx]] X (AddForm b ⟨kd, nm, ats, tx⟩ X) :=
  (add_impl nv ov b ⟨kd, nm, ats, tx⟩ ta tn tc X hb hf ht (by show ats.length ≤ _; omega)).mono fun _ _ h => addForm h
/-- What an argument may hold so that append stays within its reach. -/
theorem fits_row {v u : Value} {ns : List Nv} {zs : List Int} (h : (rwN v ns).weight ≤ 1048576) (h2 : (rwI u zs).weight ≤ 1048576) : Fits ⟨ns.map Prod.fst, zs⟩ := by
  have := (rwN_weight v ns).1
  rw [rwI_weight] at h2
  exact ⟨by show ndW (ns.map Prod.fst) ≤ _; omega, by show zs.length ≤ _; omega⟩
theorem attrs_row {v : Value} {ats : List At} (h : (rwA v ats).weight ≤ 1048576) : ats.length ≤ 1048576 := by
  rw [rwA, Rw.weight] at h; omega
theorem bd_al {B : Nat} {w0 w : World} {nv ov : Value} {ns : List Nv} {zs : List Int} (h : BdM B w0 w nv ov ns zs) (o : Obj) : BdM B w0 (w.alloc o) nv ov ns zs := h.later ((Below.refl _ _).alloc (Nat.le_refl _) o)
theorem bd_st2 {B c : Nat} {w0 w : World} {nv ov u v : Value} {ns : List Nv} {zs : List Int} (hb : w.heap[c]? = some (.cells zBd 27 (0, 0))) (hB : B ≤ c) (h : BdM B w0 w nv ov ns zs) : BdM B w0 ((w.setCell ⟨c, 0, none⟩ u).setCell ⟨c, 1, none⟩ v) nv ov ns zs := (h.setT hb hB).setT (Box2.set0 hb u) hB
theorem heap_bl {X w' : World} {g : Nat} {o : Obj} (k : Below X.heap.size X w') (h : X.heap[g]? = some o) : w'.heap[g]? = some o := below_heap k (heap_lt h) h
theorem bd_nobox {B c : Nat} {w0 w : World} {x y nv ov : Value} {ns : List Nv} {zs : List Int} (hq : Box2 w c x y) (h : BdM B w0 w nv ov ns zs) : c ∉ blocksL [rwN nv ns, rwI ov zs] := by
  intro hc
  rw [blocksL, blocksL, blocksL, List.append_nil] at hc
  rcases List.mem_append.1 hc with hc | hc
  · rw [rwN, Rw.blocks, ndCells_blocks] at hc
    rcases List.mem_append.1 hc with hc | hc
    · exact row_ne_box h.n.row.row hq nd_ne_bd.1 (by have : nv.ownBlock = some c := by simpa using hc
                                                     exact this.symm)
    · obtain ⟨p, hp, hpb⟩ := insN_mem.1 hc
      exact row_ne_box (h.n.inn p hp).1 hq nd_ne_bd.2.1 hpb.symm
  · rw [rwI_blocks] at hc
    exact row_ne_box h.o.row hq nd_ne_bd.2.2.1 (by have : ov.ownBlock = some c := by simpa using hc
                                                   exact this.symm)
end Go.Proofs.Ytjiogmbiiojhgaa

/- Copies, comparisons, marks of policies in the laws. Helper facts, no claim of its own. -/
import Derived.Test.YtkjjiinccljhjaaPolF
namespace Go.Proofs.Ytkjjiinccljhjaa
open Go.ChangeShapes Go.WideShapes Go.ChangeAt Go.RowKit

theorem ownL_three {lo hi : Nat} {w : World} {a b c : Rw} : OwnRL lo hi w [a, b, c] ↔ a.OwnR lo hi w ∧ b.OwnR lo hi w ∧ c.OwnR lo hi w := by rw [ownRL_iff]; simp
/-- Three slices of strings in data form, their values in letters. -/
structure PoF (y1 y2 y3 : Rw) (u1 u2 u3 : Value) (xs ys zs : List ByteArray) : Prop where
  i1 : IsStringS y1
  i2 : IsStringS y2
  i3 : IsStringS y3
  d1 : y1.data = (rwSs (.slice none 0 0) xs).data
  d2 : y2.data = (rwSs (.slice none 0 0) ys).data
  d3 : y3.data = (rwSs (.slice none 0 0) zs).data
  e1 : y1.cell = u1
  e2 : y2.cell = u2
  e3 : y3.cell = u3
theorem PoF.reads {y1 y2 y3 : Rw} {u1 u2 u3 : Value} {xs ys zs : List ByteArray} (h : PoF y1 y2 y3 u1 u2 u3 xs ys zs) {lo hi : Nat} {w : World} (ho : OwnRL lo hi w [y1, y2, y3]) (b : Bool) (t : ByteArray) : ReadP w.heap.size w u1 u2 u3 ⟨b, xs, ys, zs, t⟩ := by
  obtain ⟨o1, o2, o3⟩ := ownL_three.1 ho
  have r1 := strs_of_data h.d1 (rd_of o1)
  have r2 := strs_of_data h.d2 (rd_of o2)
  have r3 := strs_of_data h.d3 (rd_of o3)
  rw [h.e1] at r1; rw [h.e2] at r2; rw [h.e3] at r3
  exact ⟨r1, r2, r3⟩
theorem poF_of {v1 v2 v3 : Value} {xs ys zs : List ByteArray} : PoF (rwSs v1 xs) (rwSs v2 ys) (rwSs v3 zs) v1 v2 v3 xs ys zs :=
  ⟨rwSs_is _ _, rwSs_is _ _, rwSs_is _ _, rwSs_data _ _ _, rwSs_data _ _ _, rwSs_data _ _ _, rfl, rfl, rfl⟩

theorem toP_any (b : Bool) (t : ByteArray) {v1 v2 v3 : Value} {xs ys zs : List ByteArray} {w : World} (r1 : ReadsK encS 1 w.heap.size w v1 xs) (r2 : ReadsK encS 1 w.heap.size w v2 ys) (r3 : ReadsK encS 1 w.heap.size w v3 zs) (h1 : (rwSs v1 xs).weight ≤ 1048576) (h2 : (rwSs v2 ys).weight ≤ 1048576) (h3 : (rwSs v3 zs).weight ≤ 1048576) :
    Calls Try.prog 14 #[.agg #[.bool b, v1, v2, v3, .string t]] w fun e w' => ∃ (y1 y2 y3 : Rw) (a1 : Option Addr) (n1 c1 : Nat) (a2 : Option Addr) (n2 c2 : Nat) (a3 : Option Addr) (n3 c3 : Nat),
      e = .returned (.agg #[.bool b, .slice a1 n1 c1, .slice a2 n2 c2, .slice a3 n3 c3, .string t]) ∧ PoF y1 y2 y3 (.slice a1 n1 c1) (.slice a2 n2 c2) (.slice a3 n3 c3) xs ys zs ∧ OwnRL w.heap.size w'.heap.size w' [y1, y2, y3] ∧ (blocksL [y1, y2, y3]).Nodup ∧ Below w.heap.size w w' := by
  refine (toL_Policy b (rwSs v1 xs) (rwSs v2 ys) (rwSs v3 zs) t w (rwSs_is _ _) (rwSs_reads r1) (Nat.le_trans h1 (by decide)) (rwSs_is _ _) (rwSs_reads r2) (Nat.le_trans h2 (by decide)) (rwSs_is _ _) (rwSs_reads r3) (Nat.le_trans h3 (by decide))).mono ?_
  rintro e w' ⟨y1, y2, y3, rfl, i1, d1, i2, d2, i3, d3, ho, hn, hb⟩
  obtain ⟨o1, o2, o3⟩ := ownL_three.1 ho
  obtain ⟨a1, n1, c1, e1⟩ := sl_form (is_sl_StringS i1) (Rw.OwnR.reads _ o1)
  obtain ⟨a2, n2, c2, e2⟩ := sl_form (is_sl_StringS i2) (Rw.OwnR.reads _ o2)
  obtain ⟨a3, n3, c3, e3⟩ := sl_form (is_sl_StringS i3) (Rw.OwnR.reads _ o3)
  exact ⟨y1, y2, y3, a1, n1, c1, a2, n2, c2, a3, n3, c3, by rw [e1, e2, e3], ⟨i1, i2, i3, d1.trans (rwSs_data _ _ _), d2.trans (rwSs_data _ _ _), d3.trans (rwSs_data _ _ _), e1, e2, e3⟩, ho, hn, hb⟩

theorem ReadP.up {w w' : World} {v1 v2 v3 : Value} {p : Pol} (h : ReadP w.heap.size w v1 v2 v3 p) (hb : Below w.heap.size w w') : ReadP w'.heap.size w' v1 v2 v3 p := (h.below hb (Nat.le_refl _)).mono hb.size
theorem toPr_any (b : Bool) (t : ByteArray) {v1 v2 v3 : Value} {xs ys zs : List ByteArray} {w0 w : World} (r1 : ReadsK encS 1 w0.heap.size w0 v1 xs) (r2 : ReadsK encS 1 w0.heap.size w0 v2 ys) (r3 : ReadsK encS 1 w0.heap.size w0 v3 zs) (h1 : (rwSs v1 xs).weight ≤ 1048576) (h2 : (rwSs v2 ys).weight ≤ 1048576) (h3 : (rwSs v3 zs).weight ≤ 1048576) (hb : Below w0.heap.size w0 w) :
    Calls Try.prog 14 #[.agg #[.bool b, v1, v2, v3, .string t]] w fun e w' => ∃ (a1 : Option Addr) (n1 c1 : Nat) (a2 : Option Addr) (n2 c2 : Nat) (a3 : Option Addr) (n3 c3 : Nat),
      e = .returned (.agg #[.bool b, .slice a1 n1 c1, .slice a2 n2 c2, .slice a3 n3 c3, .string t]) ∧ ReadP w'.heap.size w' (.slice a1 n1 c1) (.slice a2 n2 c2) (.slice a3 n3 c3) ⟨b, xs, ys, zs, t⟩ ∧ Below w.heap.size w w' := by
  refine (toP_any b t ((r1.below hb (Nat.le_refl _)).mono hb.size) ((r2.below hb (Nat.le_refl _)).mono hb.size) ((r3.below hb (Nat.le_refl _)).mono hb.size) h1 h2 h3).mono ?_
  rintro e w' ⟨y1, y2, y3, a1, n1, c1, a2, n2, c2, a3, n3, c3, rfl, hf, ho, _, hbb⟩
  exact ⟨a1, n1, c1, a2, n2, c2, a3, n3, c3, rfl, hf.reads ho b t, hbb⟩

theorem eqPo (b : Bool) (t : ByteArray) {y1 y2 y3 z1 z2 z3 : Rw} {u1 u2 u3 v1 v2 v3 : Value} {xs ys zs : List ByteArray} (h : PoF y1 y2 y3 u1 u2 u3 xs ys zs) (k : PoF z1 z2 z3 v1 v2 v3 xs ys zs) {lo hi lo' hi' : Nat} {w : World} (ho : OwnRL lo hi w [y1, y2, y3]) (ho' : OwnRL lo' hi' w [z1, z2, z3]) :
    Calls Try.prog 16 #[.agg #[.bool b, u1, u2, u3, .string t], .agg #[.bool b, v1, v2, v3, .string t]] w fun e w' => e = .returned (.bool true) ∧ Grw w w' := by
  obtain ⟨o1, o2, o3⟩ := ownL_three.1 ho
  obtain ⟨p1, p2, p3⟩ := ownL_three.1 ho'
  exact eqV_Policy b y1 z1 y2 z2 y3 z3 t u1 u2 u3 v1 v2 v3 h.e1 k.e1 h.e2 k.e2 h.e3 k.e3 w h.i1 k.i1 (h.d1.trans k.d1.symm) (rd_of o1) (rd_of p1) h.i2 k.i2 (h.d2.trans k.d2.symm) (rd_of o2) (rd_of p2) h.i3 k.i3 (h.d3.trans k.d3.symm) (rd_of o3) (rd_of p3)

end Go.Proofs.Ytkjjiinccljhjaa

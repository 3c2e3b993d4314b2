/- Copies, comparisons, marks of policies in the laws. Helper facts, no claim of its own. Helper contracts: a copy of a policy. Asked: the policy's slices read as named, they are not too long. Helper contracts over the functions with which the laws draw integers and strings out of bytes: whatever the bytes, what is drawn is in range, and of what lay in memory before only the reader's own block is written. Draws of policies: lists of hosts. Helper contracts, no claim of their own. Draws of policies. Helper contracts, no claim of their own. The draw of any policy. Helper contracts, no claim of their own. -/
import Derived.Test.YtkjjiinccljhjaaGreatDoorMe6
import Derived.Test.YtkjjiinccljhjaaGreatDoorMe7
import Derived.Deep.CutRange
import Derived.Test.YtkjjiinccljhjaaGreatDoorMe4
import Derived.Deep.AppendLies
import Derived.Deep.RegionLaw
namespace Go.Proofs.YtkjjiinccljhjaaGreatDoor

open Go.ChangeShapes Go.WideShapes Go.ChangeAt Go.RowKit

theorem ownL_three {lo hi : Nat} {w : World} {a b c : Rw} : OwnRL lo hi w [a, b, c] ↔ a.OwnR lo hi w ∧ b.OwnR lo hi w ∧ c.OwnR lo hi w := by rw [ownRL_iff]; simp
/-- Three slices of strings in data form, their values in letters. -/
structure PoF (y1 y2 y3 : Rw) (u1 u2 u3 : Value) (xs ys zs : List ByteArray) : Prop where
  i1 : IsStringS y1
  i2 : IsStringS y2
  i3 : IsStringS y3
  d1 : y1.data = (rwSs (.slice none 0 0) xs).data
  d2 : y2.data = (rwSs (.slice none 0 0) ys).data
  d3 : y3.data = (rwSs (.slice none 0 0) zs).data
  e1 : y1.cell = u1
  e2 : y2.cell = u2
  e3 : y3.cell = u3
theorem PoF.reads {y1 y2 y3 : Rw} {u1 u2 u3 : Value} {xs ys zs : List ByteArray} (h : PoF y1 y2 y3 u1 u2 u3 xs ys zs) {lo hi : Nat} {w : World} (ho : OwnRL lo hi w [y1, y2, y3]) (b : Bool) (t : ByteArray) : ReadP w.heap.size w u1 u2 u3 ⟨b, xs, ys, zs, t⟩ := by
  obtain ⟨o1, o2, o3⟩ := ownL_three.1 ho
  have r1 := strs_of_data h.d1 (rd_of o1)
  have r2 := strs_of_data h.d2 (rd_of o2)
  have r3 := strs_of_data h.d3 (rd_of o3)
  rw [h.e1] at r1; rw [h.e2] at r2; rw [h.e3] at r3
  exact ⟨r1, r2, r3⟩
theorem poF_of {v1 v2 v3 : Value} {xs ys zs : List ByteArray} : PoF (rwSs v1 xs) (rwSs v2 ys) (rwSs v3 zs) v1 v2 v3 xs ys zs :=
  ⟨rwSs_is _ _, rwSs_is _ _, rwSs_is _ _, rwSs_data _ _ _, rwSs_data _ _ _, rwSs_data _ _ _, rfl, rfl, rfl⟩

theorem toP_any (b : Bool) (t : ByteArray) {v1 v2 v3 : Value} {xs ys zs : List ByteArray} {w : World} (r1 : ReadsK encS 1 w.heap.size w v1 xs) (r2 : ReadsK encS 1 w.heap.size w v2 ys) (r3 : ReadsK encS 1 w.heap.size w v3 zs) (h1 : (rwSs v1 xs).weight ≤ 1048576) (h2 : (rwSs v2 ys).weight ≤ 1048576) (h3 : (rwSs v3 zs).weight ≤ 1048576) :
    Calls Tryz.prog 29 #[.agg #[.bool b, v1, v2, v3, .string t]] w fun e w' => ∃ (y1 y2 y3 : Rw) (a1 : Option Addr) (n1 c1 : Nat) (a2 : Option Addr) (n2 c2 : Nat) (a3 : Option Addr) (n3 c3 : Nat),
      e = .returned (.agg #[.bool b, .slice a1 n1 c1, .slice a2 n2 c2, .slice a3 n3 c3, .string t]) ∧ PoF y1 y2 y3 (.slice a1 n1 c1) (.slice a2 n2 c2) (.slice a3 n3 c3) xs ys zs ∧ OwnRL w.heap.size w'.heap.size w' [y1, y2, y3] ∧ (blocksL [y1, y2, y3]).Nodup ∧ Below w.heap.size w w' := by
  refine (toL_Policy b (rwSs v1 xs) (rwSs v2 ys) (rwSs v3 zs) t w (rwSs_is _ _) (rwSs_reads r1) (Nat.le_trans h1 (by decide)) (rwSs_is _ _) (rwSs_reads r2) (Nat.le_trans h2 (by decide)) (rwSs_is _ _) (rwSs_reads r3) (Nat.le_trans h3 (by decide))).mono ?_
  rintro e w' ⟨y1, y2, y3, rfl, i1, d1, i2, d2, i3, d3, ho, hn, hb⟩
  obtain ⟨o1, o2, o3⟩ := ownL_three.1 ho
  obtain ⟨a1, n1, c1, e1⟩ := sl_form (is_sl_StringS i1) (Rw.OwnR.reads _ o1)
  obtain ⟨a2, n2, c2, e2⟩ := sl_form (is_sl_StringS i2) (Rw.OwnR.reads _ o2)
  obtain ⟨a3, n3, c3, e3⟩ := sl_form (is_sl_StringS i3) (Rw.OwnR.reads _ o3)
  exact ⟨y1, y2, y3, a1, n1, c1, a2, n2, c2, a3, n3, c3, by rw [e1, e2, e3], ⟨i1, i2, i3, d1.trans (rwSs_data _ _ _), d2.trans (rwSs_data _ _ _), d3.trans (rwSs_data _ _ _), e1, e2, e3⟩, ho, hn, hb⟩

theorem ReadP.up {w w' : World} {v1 v2 v3 : Value} {p : Pol} (h : ReadP w.heap.size w v1 v2 v3 p) (hb : Below w.heap.size w w') : ReadP w'.heap.size w' v1 v2 v3 p := (h.below hb (Nat.le_refl _)).mono hb.size
theorem toPr_any (b : Bool) (t : ByteArray) {v1 v2 v3 : Value} {xs ys zs : List ByteArray} {w0 w : World} (r1 : ReadsK encS 1 w0.heap.size w0 v1 xs) (r2 : ReadsK encS 1 w0.heap.size w0 v2 ys) (r3 : ReadsK encS 1 w0.heap.size w0 v3 zs) (h1 : (rwSs v1 xs).weight ≤ 1048576) (h2 : (rwSs v2 ys).weight ≤ 1048576) (h3 : (rwSs v3 zs).weight ≤ 1048576) (hb : Below w0.heap.size w0 w) :
    Calls Tryz.prog 29 #[.agg #[.bool b, v1, v2, v3, .string t]] w fun e w' => ∃ (a1 : Option Addr) (n1 c1 : Nat) (a2 : Option Addr) (n2 c2 : Nat) (a3 : Option Addr) (n3 c3 : Nat),
      e = .returned (.agg #[.bool b, .slice a1 n1 c1, .slice a2 n2 c2, .slice a3 n3 c3, .string t]) ∧ ReadP w'.heap.size w' (.slice a1 n1 c1) (.slice a2 n2 c2) (.slice a3 n3 c3) ⟨b, xs, ys, zs, t⟩ ∧ Below w.heap.size w w' := by
  refine (toP_any b t ((r1.below hb (Nat.le_refl _)).mono hb.size) ((r2.below hb (Nat.le_refl _)).mono hb.size) ((r3.below hb (Nat.le_refl _)).mono hb.size) h1 h2 h3).mono ?_
  rintro e w' ⟨y1, y2, y3, a1, n1, c1, a2, n2, c2, a3, n3, c3, rfl, hf, ho, _, hbb⟩
  exact ⟨a1, n1, c1, a2, n2, c2, a3, n3, c3, rfl, hf.reads ho b t, hbb⟩

theorem eqPo (b : Bool) (t : ByteArray) {y1 y2 y3 z1 z2 z3 : Rw} {u1 u2 u3 v1 v2 v3 : Value} {xs ys zs : List ByteArray} (h : PoF y1 y2 y3 u1 u2 u3 xs ys zs) (k : PoF z1 z2 z3 v1 v2 v3 xs ys zs) {lo hi lo' hi' : Nat} {w : World} (ho : OwnRL lo hi w [y1, y2, y3]) (ho' : OwnRL lo' hi' w [z1, z2, z3]) :
    Calls Tryz.prog 32 #[.agg #[.bool b, u1, u2, u3, .string t], .agg #[.bool b, v1, v2, v3, .string t]] w fun e w' => e = .returned (.bool true) ∧ Grw w w' := by
  obtain ⟨o1, o2, o3⟩ := ownL_three.1 ho
  obtain ⟨p1, p2, p3⟩ := ownL_three.1 ho'
  exact eqV_Policy b y1 z1 y2 z2 y3 z3 t u1 u2 u3 v1 v2 v3 h.e1 k.e1 h.e2 k.e2 h.e3 k.e3 w h.i1 k.i1 (h.d1.trans k.d1.symm) (rd_of o1) (rd_of p1) h.i2 k.i2 (h.d2.trans k.d2.symm) (rd_of o2) (rd_of p2) h.i3 k.i3 (h.d3.trans k.d3.symm) (rd_of o3) (rd_of p3)

end Go.Proofs.YtkjjiinccljhjaaGreatDoor
namespace Go.Proofs.YtkjjiinccljhjaaGreatDoor
open Go.ChangeShapes Go.WideShapes Go.ChangeAt Go.RowKit

theorem heap_bl9 {X w' : World} {g : Nat} {o : Obj} (k : Below X.heap.size X w') (h : X.heap[g]? = some o) : w'.heap[g]? = some o := below_heap k (heap_lt h) h
theorem bl_s9 {B c o : Nat} {w w' : World} (h : Below B w w') (hb : B ≤ c) (u : Value) : Below B w (w'.setCell ⟨c, o, none⟩ u) := h.setCell hb u
theorem bl_sz {w X w' : World} (h : Below w.heap.size w X) (_ : Below X.heap.size X w') : w.heap.size ≤ X.heap.size := h.size
theorem ownK_only {α : Type} {enc : α → List Value} {k : Nat} {e : TypeId} {lo hi : Nat} {w w' : World} {v : Value} {xs : List α} {bs : List Nat} (h : OwnK enc k e lo hi w v xs) (hb : OnlyB bs w w') (hn : ∀ b, v.ownBlock = some b → b ∉ bs) : OwnK enc k e lo hi w' v xs := ⟨ownsRow_only h.1 hb hn, h.2⟩
/-- A struct of five cells stored into its box. -/
abbrev set5 (W : World) (p : Nat) (u0 u1 u2 u3 u4 : Value) : World := ((((W.setCell ⟨p, 0, none⟩ u0).setCell ⟨p, 1, none⟩ u1).setCell ⟨p, 2, none⟩ u2).setCell ⟨p, 3, none⟩ u3).setCell ⟨p, 4, none⟩ u4
theorem set5_only (W : World) (p : Nat) (u0 u1 u2 u3 u4 : Value) : OnlyB [p] W (set5 W p u0 u1 u2 u3 u4) := (((((OnlyB.refl [p] W).set (by simp)).set (by simp)).set (by simp)).set (by simp)).set (by simp)
theorem set5_box {W : World} {p : Nat} {T : TypeId} {z0 z1 z2 z3 z4 : Value} (h : W.heap[p]? = some (.cells #[z0, z1, z2, z3, z4] T (0, 0))) (u0 u1 u2 u3 u4 : Value) : (set5 W p u0 u1 u2 u3 u4).heap[p]? = some (.cells #[u0, u1, u2, u3, u4] T (0, 0)) :=
  heap_one (o := 4) (heap_one (o := 3) (heap_one (o := 2) (heap_one (o := 1) (heap_one (o := 0) h u0) u1) u2) u3) u4
/-- Three slices of strings of the call's own, apart from each other. -/
def Own3 (lo : Nat) (w : World) (v1 v2 v3 : Value) (xs ys zs : List ByteArray) : Prop := OwnRL lo w.heap.size w [rwSs v1 xs, rwSs v2 ys, rwSs v3 zs] ∧ (blocksL [rwSs v1 xs, rwSs v2 ys, rwSs v3 zs]).Nodup
theorem own3_of {B l1 h1 l2 h2 l3 h3 : Nat} {w : World} {v1 v2 v3 : Value} {xs ys zs : List ByteArray} (o1 : OwnK encS 1 9 l1 h1 w v1 xs) (o2 : OwnK encS 1 9 l2 h2 w v2 ys) (o3 : OwnK encS 1 9 l3 h3 w v3 zs)
    (b1 : B ≤ l1) (b2 : B ≤ l2) (b3 : B ≤ l3) (d12 : h1 ≤ l2 ∨ h2 ≤ l1) (d13 : h1 ≤ l3 ∨ h3 ≤ l1) (d23 : h2 ≤ l3 ∨ h3 ≤ l2) : Own3 B w v1 v2 v3 xs ys zs := by
  have e1 : ∀ g, v1.ownBlock = some g → l1 ≤ g ∧ g < h1 := fun g hg => ⟨(o1.lt g hg).1, o1.2 g hg⟩
  have e2 : ∀ g, v2.ownBlock = some g → l2 ≤ g ∧ g < h2 := fun g hg => ⟨(o2.lt g hg).1, o2.2 g hg⟩
  have e3 : ∀ g, v3.ownBlock = some g → l3 ≤ g ∧ g < h3 := fun g hg => ⟨(o3.lt g hg).1, o3.2 g hg⟩
  refine ⟨ownL_three.2 ⟨Rw.OwnR.top (Rw.OwnR.mono b1 (Nat.le_refl _) _ (rwSs_own o1)), Rw.OwnR.top (Rw.OwnR.mono b2 (Nat.le_refl _) _ (rwSs_own o2)), Rw.OwnR.top (Rw.OwnR.mono b3 (Nat.le_refl _) _ (rwSs_own o3))⟩, ?_⟩
  simp only [blocksL, List.append_nil, rwSs_blocks]
  have n : ∀ o : Option Nat, o.toList.Nodup := fun o => by cases o <;> simp
  refine List.nodup_append.2 ⟨n _, List.nodup_append.2 ⟨n _, n _, fun a ha b hb e => ?_⟩, fun a ha b hb e => ?_⟩
  · subst e
    have k2 := e2 a (by simpa using ha); have k3 := e3 a (by simpa using hb)
    omega
  · subst e
    have k1 := e1 a (by simpa using ha)
    rcases List.mem_append.1 hb with hb | hb
    · have k2 := e2 a (by simpa using hb); omega
    · have k3 := e3 a (by simpa using hb); omega
/-- A policy of the call's own. -/
def PoNew (p : Pol) (w : World) (e : Ending) (w' : World) : Prop :=
  ∃ (a1 : Option Addr) (n1 c1 : Nat) (a2 : Option Addr) (n2 c2 : Nat) (a3 : Option Addr) (n3 c3 : Nat), e = .returned (.agg #[.bool p.set, .slice a1 n1 c1, .slice a2 n2 c2, .slice a3 n3 c3, .string p.non]) ∧ Own3 w.heap.size w' (.slice a1 n1 c1) (.slice a2 n2 c2) (.slice a3 n3 c3) p.scr p.sty p.img ∧ Below w.heap.size w w'
theorem fin5 {w Wc W1 W2 W3 : World} {p B l1 h1 l2 h2 l3 h3 : Nat} {T : TypeId} {z0 z1 z2 z3 z4 u0 u4 v1 v2 v3 : Value} {xs ys zs : List ByteArray} (hp : Wc.heap[p]? = some (.cells #[z0, z1, z2, z3, z4] T (0, 0))) (hpB : B ≤ p) (hb : Below B w Wc) (hB : B ≤ w.heap.size)
    (o1 : OwnK encS 1 9 l1 h1 W1 v1 xs) (k1 : Below W1.heap.size W1 Wc) (o2 : OwnK encS 1 9 l2 h2 W2 v2 ys) (k2 : Below W2.heap.size W2 Wc) (o3 : OwnK encS 1 9 l3 h3 W3 v3 zs) (k3 : Below W3.heap.size W3 Wc)
    (p1 : p < l1) (p2 : p < l2) (p3 : p < l3) (d12 : h1 ≤ l2 ∨ h2 ≤ l1) (d13 : h1 ≤ l3 ∨ h3 ≤ l1) (d23 : h2 ≤ l3 ∨ h3 ≤ l2) :
    (set5 Wc p u0 v1 v2 v3 u4).heap[p]? = some (.cells #[u0, v1, v2, v3, u4] T (0, 0)) ∧ Own3 (p + 1) (set5 Wc p u0 v1 v2 v3 u4) v1 v2 v3 xs ys zs ∧ Below B w (set5 Wc p u0 v1 v2 v3 u4) := by
  have ho := set5_only Wc p u0 v1 v2 v3 u4
  have f : ∀ {lo hi : Nat} {W : World} {v : Value} {us : List ByteArray}, OwnK encS 1 9 lo hi W v us → Below W.heap.size W Wc → p < lo → OwnK encS 1 9 lo hi (set5 Wc p u0 v1 v2 v3 u4) v us := fun o k hlt => ownK_only (o.later k) ho fun b hv hm => by
    rw [List.mem_singleton] at hm
    have := (o.lt b hv).1; omega
  refine ⟨set5_box hp _ _ _ _ _, own3_of (f o1 k1 p1) (f o2 k2 p2) (f o3 k3 p3) p1 p2 p3 d12 d13 d23, hb.trans (ho.below (fun i hi => by rw [List.mem_singleton] at hi; omega) ?_)⟩
  exact Nat.le_trans hB hb.size
theorem own_form {lo hi : Nat} {w : World} {v : Value} {xs : List ByteArray} (h : OwnK encS 1 9 lo hi w v xs) : ∃ a n c, v = .slice a n c := by
  obtain ⟨a, c, e, _⟩ := h.reads encS_len
  exact ⟨a, _, c, e⟩
def NewF (xs : List ByteArray) (X : World) (e : Ending) (w' : World) : Prop := ∃ (a : Option Addr) (n c : Nat), e = .returned (.slice a n c) ∧ OwnK encS 1 9 X.heap.size w'.heap.size w' (.slice a n c) xs ∧ Below X.heap.size X w'
theorem newF_of {xs : List ByteArray} {X : World} {e : Ending} {w' : World} (h : NewK encS 1 9 xs X e w') : NewF xs X e w' := by
  obtain ⟨v, rfl, ho, hb⟩ := h
  obtain ⟨a, n, c, rfl⟩ := own_form ho
  exact ⟨a, n, c, rfl, ho, hb⟩

end Go.Proofs.YtkjjiinccljhjaaGreatDoor
namespace Go.Proofs.YtkjjiinccljhjaaGreatDoor
open Go.ChangeShapes Go.WideShapes Go.ChangeAt Go.RowKit

def intCell : Value → Bool
  | .int .i64 n => decide (-9223372036854775808 ≤ n) && decide (n ≤ 9223372036854775807)
  | _ => false
theorem cells_int (w : World) (C : Array Value) (T : TypeId) (m : Nat) (hm : C.size = m) (h : C.all intCell = true) : ∀ j, j < m → ∃ v : Int, -9223372036854775808 ≤ v ∧ v ≤ 9223372036854775807 ∧ (w.alloc (.cells C T)).cell? ⟨w.heap.size, j, none⟩ = some (.int .i64 v) := by
  subst hm
  intro j hj
  have h1 : intCell C[j] = true := by rw [Array.all_eq_true] at h; exact h j hj
  have h2 : (w.alloc (.cells C T)).cell? ⟨w.heap.size, j, none⟩ = some C[j] := by
    unfold World.cell?
    have h3 : (w.alloc (.cells C T)).heap[w.heap.size]? = some (.cells C T) := by
      show (w.heap.push _)[w.heap.size]? = _
      simp
    rw [h3]
    simp [hj]
  rw [h2]
  cases hc : C[j] with
  | int k n =>
    cases k
    all_goals first
      | (rw [hc] at h1; simp [intCell] at h1; done)
      | (rw [hc] at h1; simp only [intCell, Bool.and_eq_true, decide_eq_true_eq] at h1; exact ⟨n, h1.1, h1.2, rfl⟩)
  | _ => rw [hc] at h1; simp [intCell] at h1
theorem mul_bd {x y : Int} (x0 : 0 ≤ x) (x1 : x < 1000000) (y0 : 0 ≤ y) (y1 : y < 1000000) : 0 ≤ x * y ∧ x * y ≤ 1000000000000 := by
  have h1 := Int.mul_nonneg x0 y0
  have h2 := Int.mul_le_mul (show x ≤ 1000000 by omega) (show y ≤ 1000000 by omega) y0 (show (0 : Int) ≤ 1000000 by omega)
  omega
def strCell : Value → Bool
  | .string s => decide (s.size ≤ 100)
  | _ => false
theorem cells_str (w : World) (C : Array Value) (T : TypeId) (m : Nat) (hm : C.size = m) (h : C.all strCell = true) : ∀ j, j < m → ∃ s : ByteArray, s.size ≤ 100 ∧ (w.alloc (.cells C T)).cell? ⟨w.heap.size, j, none⟩ = some (.string s) := by
  subst hm
  intro j hj
  have h1 : strCell C[j] = true := by rw [Array.all_eq_true] at h; exact h j hj
  have h2 : (w.alloc (.cells C T)).cell? ⟨w.heap.size, j, none⟩ = some C[j] := by
    unfold World.cell?
    have h3 : (w.alloc (.cells C T)).heap[w.heap.size]? = some (.cells C T) := by
      show (w.heap.push _)[w.heap.size]? = _
      simp
    rw [h3]
    simp [hj]
  rw [h2]
  cases hc : C[j] with
  | string s => rw [hc] at h1; simp only [strCell, decide_eq_true_eq] at h1; exact ⟨s, h1, rfl⟩
  | _ => rw [hc] at h1; simp [strCell] at h1

/-- A new reader over the bytes. -/
def NewOut (sv : Value) (len : Nat) (w : World) (e : Ending) (w' : World) : Prop :=
  e = .returned (.pointer (some ⟨w.heap.size, 0, none⟩)) ∧ Cur w.heap.size sv len w' ∧ Below w.heap.size w w'
theorem new_cur {w : World} {sv : Value} {len : Nat} (h : CodeOk w.heap.size w sv len) (x : Int) : Cur w.heap.size sv len (w.alloc (.cells #[sv, .int .i64 0, .int .i64 x] 169)) := by
  obtain ⟨a, cap, e, h3, h4⟩ := h
  refine ⟨0, x, ?_, by omega, a, cap, e, h3, ?_⟩
  · show (w.heap.push _)[w.heap.size]? = _
    simp
  · rcases h4 with h4 | ⟨blk, off, e2, hb, hc⟩
    · exact Or.inl h4
    · refine Or.inr ⟨blk, off, e2, hb, fun j hj => ?_⟩
      obtain ⟨n, n0, n1, hn⟩ := hc j hj
      exact ⟨n, n0, n1, by rw [((Below.refl _ _).alloc (Nat.le_refl _) _ : Below w.heap.size w _).cell hb]; exact hn⟩

set_option maxHeartbeats 1000000 in
theorem new_any (sv : Value) (len : Nat) (w : World) (hc : CodeOk w.heap.size w sv len) :
    Calls Tryz.prog 71 #[sv] w (NewOut sv len w) := by
  have HN := Lib.hid (fun x => new_cur hc x)
  obtain ⟨a, cap, hsv, hlen, hcode⟩ := hc
  subst hsv
  have HC := Lib.hid hcode; clear hcode
  go_enter Tryz.func71, Tryz.ntmps71
  go_wp2
  go_loop [3, 4] (fun h i => ∃ (k : Nat) (x : Int), k ≤ len ∧ i = .int .i64 k ∧ h = .int .i64 x) (fun _ i => len - (intOf i).toNat)
  case atStart => exact ⟨0, _, Nat.zero_le _, rfl, rfl⟩
  case round =>
    obtain ⟨k, x, hk, rfl, rfl⟩ := hrel
    by_cases hlt : (k : Int) < (len : Int)
    · rcases HC.out with h0 | ⟨blk, off, rfl, hblk, hcells⟩
      · omega
      · obtain ⟨n, n0, n1, hn⟩ := hcells k (by omega)
        clear hcells
        by_cases h4 : (k : Int) < 4000
        · go_wp2
          go_round
          case rel => exact ⟨k + 1, _, by omega, by go_num, rfl⟩
          case measure => simp [intOf]; omega
        · go_wp2
          go_ret
          exact ⟨rfl, HN.out _, (Below.refl _ _).alloc (Nat.le_refl _) _⟩
    · have hltd : decide ((k : Int) < (len : Int)) = false := decide_eq_false hlt
      go_wp2
      go_ret
      exact ⟨rfl, HN.out _, (Below.refl _ _).alloc (Nat.le_refl _) _⟩

end Go.Proofs.YtkjjiinccljhjaaGreatDoor
namespace Go.Proofs.YtkjjiinccljhjaaGreatDoor
open Go.ChangeShapes Go.WideShapes Go.ChangeAt Go.RowKit

theorem Kept.only {b : Nat} {w w' : World} (h : Kept b w w') : OnlyB [b] w w' := ⟨h.os, h.tape, h.output, h.size, fun i hi hn => h.block i hi (by simpa using hn)⟩
theorem kept_belowP {b lo : Nat} {w w1 w2 : World} (h : Kept b w w1) (hb : Below lo w1 w2) (hl : w.heap.size ≤ lo) : Kept b w w2 :=
  ⟨hb.os.trans h.os, hb.tape.trans h.tape, hb.output.trans h.output, Nat.le_trans h.size hb.size, fun k hk hn => (hb.block k (by omega)).trans (h.block k hk hn)⟩
theorem Cur.keptLoP {b lo : Nat} {sv : Value} {len : Nat} {w w' : World} (h : Cur b sv len w) (k : Below lo w w') (hl : b < lo) : Cur b sv len w' := by
  obtain ⟨i, x, h1, h2, a, cap, e, h3, h4⟩ := h
  refine ⟨i, x, by rw [k.block b hl]; exact h1, h2, a, cap, e, h3, ?_⟩
  rcases h4 with h4 | ⟨blk, off, e2, hb, hc⟩
  · exact Or.inl h4
  · refine Or.inr ⟨blk, off, e2, hb, fun j hj => ?_⟩
    obtain ⟨n, n0, n1, hn⟩ := hc j hj
    exact ⟨n, n0, n1, by rw [k.cell (by show blk < _; omega)]; exact hn⟩
theorem ownK_keptP {lo hi b : Nat} {w w' : World} {v : Value} {xs : List ByteArray} (h : OwnK encS 1 9 lo hi w v xs) (hk : Kept b w w') (hb : b < lo) : OwnK encS 1 9 lo hi w' v xs :=
  ownK_only h hk.only fun g hg hm => by rw [List.mem_singleton] at hm; have := (h.lt g hg).1; omega
theorem own3_only {lo : Nat} {w w' : World} {bs : List Nat} {v1 v2 v3 : Value} {xs ys zs : List ByteArray} (h : Own3 lo w v1 v2 v3 xs ys zs) (hb : OnlyB bs w w') (hn : ∀ b ∈ bs, b < lo) : Own3 lo w' v1 v2 v3 xs ys zs :=
  ⟨ownL_mono (ownL_only h.1 hb fun g hg hm => by have := (ownL_lt h.1 g hg).1; have := hn g hm; omega) (Nat.le_refl _) hb.size, h.2⟩
theorem own3_low {lo lo' : Nat} {w : World} {v1 v2 v3 : Value} {xs ys zs : List ByteArray} (h : Own3 lo w v1 v2 v3 xs ys zs) (hl : lo' ≤ lo) : Own3 lo' w v1 v2 v3 xs ys zs := ⟨ownL_mono h.1 hl (Nat.le_refl _), h.2⟩
theorem own3_later {lo : Nat} {w w' : World} {v1 v2 v3 : Value} {xs ys zs : List ByteArray} (h : Own3 lo w v1 v2 v3 xs ys zs) (hb : Below w.heap.size w w') : Own3 lo w' v1 v2 v3 xs ys zs := ⟨ownL_mono (ownL_later h.1 hb) (Nat.le_refl _) hb.size, h.2⟩
theorem own3_reads {lo : Nat} {w : World} {v1 v2 v3 : Value} {p : Pol} (h : Own3 lo w v1 v2 v3 p.scr p.sty p.img) : ReadP w.heap.size w v1 v2 v3 p := by
  obtain ⟨o1, o2, o3⟩ := ownL_three.1 h.1
  have f : ∀ {v : Value} {us : List ByteArray}, (rwSs v us).OwnR lo w.heap.size w → ReadsK encS 1 w.heap.size w v us := fun o => strs_of_data (x := rwSs _ _) (rwSs_data _ (.slice none 0 0) _) (Rw.OwnR.reads _ o)
  exact ⟨f o1, f o2, f o3⟩
theorem own3_zero (lo : Nat) (w : World) : Own3 lo w (.slice none 0 0) (.slice none 0 0) (.slice none 0 0) [] [] [] := by
  have h : (rwSs (.slice none 0 0) []).OwnR lo w.heap.size w := rwSs_own ⟨World.ownsRow_nil _ _ _ _, fun g hg => by cases hg⟩
  exact ⟨ownL_three.2 ⟨h, h, h⟩, by decide⟩

/-- append of one string to a slice of the call's own: where it lies. -/
theorem wpList_appSL {w : World} {ops : Array Oper} {rest : List Oper} {o : Oper} {a : Act} {Q : Exit → Act → World → Prop} (hgd : o.guard = none) (s x : Operand)
    (ho : o.op = .call { callee := .builtin .append, args := #[s, x], argTypes := #[24, 24] })
    (B : Nat) (v : Value) (xs : List ByteArray) (hs : a.eval s = v) (hown : w.ownsRow B 9 1 v xs.length (xs.flatMap encS)) (ad : Addr) (c : Nat) (top : Nat) (y : ByteArray) (hx : a.eval x = .slice (some ad) 1 c) (hr : ReadsK encS 1 top w (.slice (some ad) 1 c) [y])
    (hlen : xs.length ≤ 1000) (hB : B ≤ w.heap.size)
    (h : ∀ g n cap w', w'.ownsRow B 9 1 (.slice (some ⟨g, 0, none⟩) n cap) (xs ++ [y]).length ((xs ++ [y]).flatMap encS) → w.grownBy w' v.ownBlock → (v.ownBlock = some g ∨ g = w.heap.size) → g < w'.heap.size → wpList Tryz.prog ops Q rest (a.put o.dst (.slice (some ⟨g, 0, none⟩) n cap)) w') : wpList Tryz.prog ops Q (o :: rest) a w := by
  obtain ⟨i, hi, hz, hsize, hby⟩ := info_parts infoStr
  refine wpList_append_lies _ hgd s x _ ho B _ i _ 1 16 Tryz.underlying24 hi hz hsize hby (by rfl) (by decide) v xs.length _ hs hown ad 1 c ([y].flatMap encS) hx (by rfl) (hr.news encS_len) ?_ (by decide) (by unfold maxLen; omega) (by omega) hB w.heap.size rfl ?_
  · intro u hu
    obtain ⟨z, _, hz⟩ := List.mem_flatMap.1 hu
    exact encS_one z u hz
  · intro g cap w' h1 h2 h3 h4
    refine h g _ cap w' ?_ h2 h3 h4
    rw [List.flatMap_append, List.length_append, List.length_singleton]; exact h1

/-- A list of hosts under way: the list, the names that are drawn from. -/
structure HostsAt (b : Nat) (sv : Value) (len : Nat) (w wr : World) (v : Value) (xs : List ByteArray) (k : Nat) : Prop where
  own : wr.ownsRow w.heap.size 9 1 v xs.length (xs.flatMap encS)
  form : ∃ g n c, v = .slice (some ⟨g, 0, none⟩) n c
  apart : v.ownBlock ≠ some (w.heap.size + 1)
  few : xs.length ≤ k
  short : ∀ x ∈ xs, x.size ≤ 100
  cur : Cur b sv len wr
  kept : Kept b w wr
  lit : wr.heap[w.heap.size + 1]? = some (.cells #[.string ⟨#[104, 111, 109, 101]⟩, .string ⟨#[99, 100, 110]⟩, .string ⟨#[101, 118, 105, 108]⟩] 9 (0, 0))
theorem HostsAt.on {b : Nat} {sv : Value} {len : Nat} {w wr w1 : World} {v : Value} {xs : List ByteArray} {k : Nat} (h : HostsAt b sv len w wr v xs k) (hb : b < w.heap.size) (hc : Cur b sv len w1) (hk : Kept b wr w1) : HostsAt b sv len w w1 v xs k :=
  ⟨(ownK_keptP (lo := w.heap.size) (hi := wr.heap.size) ⟨h.own, fun g hg => (h.own.lt g hg).2⟩ hk hb).1, h.form, h.apart, h.few, h.short, hc, h.kept.trans hk, by rw [hk.block _ (heap_lt h.lit) (by omega)]; exact h.lit⟩
def HostsGot (b : Nat) (sv : Value) (len : Nat) (w : World) (e : Ending) (w' : World) : Prop :=
  ∃ a n c xs, e = .returned (.slice a n c) ∧ OwnK encS 1 9 w.heap.size w'.heap.size w' (.slice a n c) xs ∧ xs.length ≤ 3 ∧ (∀ x ∈ xs, x.size ≤ 100) ∧ Cur b sv len w' ∧ Kept b w w'

set_option maxRecDepth 100000 in
set_option maxHeartbeats 4000000 in
theorem hosts_any (b : Nat) (sv : Value) (len : Nat) (w : World) (hc : Cur b sv len w) :
    Calls Tryz.prog 131 #[.pointer (some ⟨b, 0, none⟩)] w (HostsGot b sv len w) := by
  have HLB := Lib.hid hc.lt
  have hst : HostsAt b sv len w ((w.alloc (.cells #[] 9)).alloc (.cells #[.string ⟨#[104, 111, 109, 101]⟩, .string ⟨#[99, 100, 110]⟩, .string ⟨#[101, 118, 105, 108]⟩] 9)) (.slice (some ⟨w.heap.size, 0, none⟩) 0 0) [] 0 := by
    refine ⟨(World.ownsRow_made (base := w.heap.size) (e := 9) (size := 1) w #[] 0 (Nat.le_refl _) (by decide) (by simp)).alloc _, ⟨_, _, _, rfl⟩, ?_, Nat.le_refl _, (fun _ h => by cases h), (hc.alloc _).alloc _, (Kept.alloc b w _).trans (Kept.alloc b _ _), ?_⟩
    · intro e; have := Option.some.inj e; simp at this
    · have h := heap_alloc_new (w.alloc (.cells #[] 9)) (.cells #[.string ⟨#[104, 111, 109, 101]⟩, .string ⟨#[99, 100, 110]⟩, .string ⟨#[101, 118, 105, 108]⟩] 9)
      rw [size_alloc] at h; exact h
  have HST := Lib.hid hst; clear hst hc
  go_enter Tryz.func131, Tryz.ntmps131
  go_wp2
  go_loopw [3, 9] (fun v i wr => ∃ (k : Nat) (xs : List ByteArray), k ≤ 3 ∧ i = .int .i64 k ∧ HostsAt b sv len w wr v xs k) (fun _ i _ => 3 - (intOf i).toNat)
  case atStart => exact ⟨0, [], Nat.zero_le _, rfl, HST.out⟩
  case round =>
    obtain ⟨k, xs, hk, rfl, hh⟩ := hrel
    by_cases hlt : k < 3
    · have hki : (k : Int) < 3 := by omega
      obtain ⟨s, hsz, cs⟩ : ∃ s : ByteArray, s.size ≤ 100 ∧ wr.cell? ⟨w.heap.size + 1, k, none⟩ = some (.string s) := by
        rcases (show k = 0 ∨ k = 1 ∨ k = 2 by omega) with rfl | rfl | rfl
        · exact ⟨_, by decide, box_cell hh.lit (j := 0) rfl⟩
        · exact ⟨_, by decide, box_cell hh.lit (j := 1) rfl⟩
        · exact ⟨_, by decide, box_cell hh.lit (j := 2) rfl⟩
      obtain ⟨g, n, c, rfl⟩ := hh.form
      have HH := Lib.hid hh; clear hh HST
      go_wp2_with fail
      refine (once_any b sv len 2 _ HH.out.cur).mono ?_
      rintro e w1 ⟨x, rfl, hc1, hk1⟩
      have hh1 := HH.out.on HLB.out hc1 hk1
      have HH1 := Lib.hid hh1; clear hc1 hk1 HH hh1 cs
      cases x with
      | false =>
        go_wp2_with fail
        go_roundw
        case rel => exact ⟨k + 1, xs, by omega, by go_num, ⟨HH1.out.own, HH1.out.form, HH1.out.apart, by have := HH1.out.few; omega, HH1.out.short, HH1.out.cur, HH1.out.kept, HH1.out.lit⟩⟩
        case measure => simp [intOf]; omega
      | true =>
        go_wp2_with (at_builtin; refine wpList_appSL rfl _ _ rfl w.heap.size _ xs rfl (HH1.out.own.alloc _) ⟨w1.heap.size, 0, none⟩ 1 _ s rfl (readsS_one w1 s) ?cl ?cB ?_)
        case cl => have := HH1.out.few; omega
        case cB => rw [size_alloc]; have := HH1.out.kept.size; omega
        intro g' n' c' w' hown hgr hblk hg'
        have hh1 := HH1.out
        have hsz1 : w.heap.size ≤ w1.heap.size := hh1.kept.size
        have hlit := heap_lt hh1.lit
        have hgB : w.heap.size ≤ g := (hh1.own.lt g rfl).1
        have hon : Below w1.heap.size w1 (w1.alloc (.cells #[.string s] 9)) := bl_aw (Below.refl _ _) _
        have hb2 : Below w.heap.size w1 w' := (hon.mono hsz1).grown hgr (by rw [size_alloc]; omega) fun q hq => by cases hq; exact hgB
        have HN := Lib.hid (show HostsAt b sv len w w' (.slice (some ⟨g', 0, none⟩) n' c') (xs ++ [s]) (k + 1) from ⟨by simpa using hown, ⟨_, _, _, rfl⟩, fun e => by
            have e2 : g' = w.heap.size + 1 := Option.some.inj e
            rcases hblk with h | h
            · exact hh1.apart (by rw [h, e2])
            · omega, by rw [List.length_append, List.length_singleton]; have := hh1.few; omega, fun x hx => by
            rcases List.mem_append.1 hx with h | h
            · exact hh1.short x h
            · rw [List.mem_singleton] at h; rw [h]; exact hsz, hh1.cur.keptLoP hb2 HLB.out, kept_belowP hh1.kept hb2 (Nat.le_refl _), by
            rw [hgr.block _ (by rw [size_alloc]; omega) (fun e => hh1.apart e.symm), hon.block _ hlit]; exact hh1.lit⟩)
        clear hown hgr hblk hg' hh1 hlit hgB hon hb2
        go_wp2_with fail
        go_roundw
        case rel => exact ⟨k + 1, _, by omega, by go_num, HN.out⟩
        case measure => simp [intOf]; omega
    · have hki : ¬ (k : Int) < 3 := by omega
      obtain ⟨g, n, c, rfl⟩ := hh.form
      have HH := Lib.hid hh; clear hh HST
      go_wp2_with fail
      go_ret
      exact ⟨_, _, _, xs, rfl, ⟨HH.out.own, fun q hq => (HH.out.own.lt q hq).2⟩, by have := HH.out.few; omega, HH.out.short, HH.out.cur, HH.out.kept⟩

end Go.Proofs.YtkjjiinccljhjaaGreatDoor
namespace Go.Proofs.YtkjjiinccljhjaaGreatDoor
open Go.ChangeShapes Go.WideShapes Go.ChangeAt Go.RowKit

/-- A slice of strings that reads so, in a block from lo on. -/
def Rd1 (lo : Nat) (w : World) (v : Value) (xs : List ByteArray) : Prop := ReadsK encS 1 w.heap.size w v xs ∧ ∀ g, v.ownBlock = some g → lo ≤ g ∧ g < w.heap.size
theorem Rd1.only {lo : Nat} {w w' : World} {v : Value} {xs : List ByteArray} {bs : List Nat} (h : Rd1 lo w v xs) (hb : OnlyB bs w w') (hn : ∀ g, v.ownBlock = some g → g ∉ bs) : Rd1 lo w' v xs := by
  obtain ⟨⟨a, cap, rfl, h1, h2, h3, h4⟩, hl⟩ := h
  refine ⟨⟨a, cap, rfl, h1, h2, h3, ?_⟩, fun g hg => ⟨(hl g hg).1, Nat.lt_of_lt_of_le (hl g hg).2 hb.size⟩⟩
  rcases h4 with h4 | ⟨g, off, rfl, hg, hc⟩
  · exact Or.inl h4
  · exact Or.inr ⟨g, off, rfl, Nat.lt_of_lt_of_le hg hb.size, fun j x hj i hi => by rw [cell_only (a := ⟨g, off + j * 1 + i, none⟩) hb (hn g rfl) hg]; exact hc j x hj i hi⟩
theorem Rd1.kept {lo b : Nat} {w w' : World} {v : Value} {xs : List ByteArray} (h : Rd1 lo w v xs) (hk : Kept b w w') (hb : b < lo) : Rd1 lo w' v xs := h.only hk.only fun g hg hm => by rw [List.mem_singleton] at hm; have := (h.2 g hg).1; omega
theorem Rd1.later {lo : Nat} {w w' : World} {v : Value} {xs : List ByteArray} (h : Rd1 lo w v xs) (hb : Below w.heap.size w w') : Rd1 lo w' v xs := h.only (OnlyB.of_below hb []) fun _ _ hm => by cases hm
theorem Rd1.low {lo lo' : Nat} {w : World} {v : Value} {xs : List ByteArray} (h : Rd1 lo w v xs) (hl : lo' ≤ lo) : Rd1 lo' w v xs := ⟨h.1, fun g hg => ⟨Nat.le_trans hl (h.2 g hg).1, (h.2 g hg).2⟩⟩
theorem Rd1.of_own {lo hi : Nat} {w : World} {v : Value} {xs : List ByteArray} (h : OwnK encS 1 9 lo hi w v xs) : Rd1 lo w v xs := by
  have h2 : OwnK encS 1 9 lo w.heap.size w v xs := ⟨h.1, fun g hg => (h.lt g hg).2⟩
  exact ⟨h2.reads encS_len, fun g hg => h.lt g hg⟩
theorem Rd1.none (lo : Nat) (w : World) : Rd1 lo w (.slice none 0 0) [] := ⟨⟨_, 0, rfl, Nat.le_refl _, by omega, fun _ => rfl, Or.inl rfl⟩, fun g hg => by cases hg⟩
/-- How much a drawn policy holds. -/
structure FewP (xs ys zs : List ByteArray) (t : ByteArray) : Prop where
  n1 : xs.length ≤ 4
  n2 : ys.length ≤ 3
  n3 : zs.length ≤ 5
  s1 : ∀ x ∈ xs, x.size ≤ 100
  s2 : ∀ x ∈ ys, x.size ≤ 100
  s3 : ∀ x ∈ zs, x.size ≤ 100
  s4 : t.size ≤ 100
theorem sum_few : ∀ (xs : List ByteArray), (∀ x ∈ xs, x.size ≤ 100) → sumSt xs ≤ 100 * xs.length
  | [], _ => Nat.le_refl _
  | x :: xs, h => by
    have ih := sum_few xs fun y hy => h y (List.mem_cons_of_mem _ hy)
    have := h x List.mem_cons_self
    unfold sumSt at ih ⊢
    rw [List.map_cons, List.sum_cons, List.length_cons]; omega
theorem FewP.sm {xs ys zs : List ByteArray} {t : ByteArray} (h : FewP xs ys zs t) (b : Bool) : PolSm ⟨b, xs, ys, zs, t⟩ := by
  have h1 := sum_few xs h.s1; have h2 := sum_few ys h.s2; have h3 := sum_few zs h.s3
  have k1 := h.n1; have k2 := h.n2; have k3 := h.n3; have k4 := h.s4
  exact ⟨by show xs.length + sumSt xs ≤ _; omega, by show ys.length + sumSt ys ≤ _; omega, by show zs.length + sumSt zs ≤ _; omega, by show t.size ≤ _; omega⟩
/-- What l9Policy draws. -/
def PolGot (b : Nat) (sv : Value) (len : Nat) (w : World) (e : Ending) (w' : World) : Prop :=
  ∃ (bo : Bool) (a1 : Option Addr) (n1 c1 : Nat) (a2 : Option Addr) (n2 c2 : Nat) (a3 : Option Addr) (n3 c3 : Nat) (xs ys zs : List ByteArray) (t : ByteArray) (h1 : Nat), e = .returned (.agg #[.bool bo, .slice a1 n1 c1, .slice a2 n2 c2, .slice a3 n3 c3, .string t]) ∧ OwnK encS 1 9 w.heap.size h1 w' (.slice a1 n1 c1) xs ∧ w.heap.size ≤ h1 ∧ Rd1 h1 w' (.slice a2 n2 c2) ys ∧ Rd1 h1 w' (.slice a3 n3 c3) zs ∧ FewP xs ys zs t ∧ xs.length ≤ 3 ∧ Cur b sv len w' ∧ Kept b w w'
/-- What l9Any draws. -/
def AnyGotP (b : Nat) (sv : Value) (len : Nat) (w : World) (e : Ending) (w' : World) : Prop :=
  ∃ (bo : Bool) (a1 : Option Addr) (n1 c1 : Nat) (a2 : Option Addr) (n2 c2 : Nat) (a3 : Option Addr) (n3 c3 : Nat) (xs ys zs : List ByteArray) (t : ByteArray), e = .returned (.agg #[.bool bo, .slice a1 n1 c1, .slice a2 n2 c2, .slice a3 n3 c3, .string t]) ∧ Rd1 w.heap.size w' (.slice a1 n1 c1) xs ∧ Rd1 w.heap.size w' (.slice a2 n2 c2) ys ∧ Rd1 w.heap.size w' (.slice a3 n3 c3) zs ∧ FewP xs ys zs t ∧ Cur b sv len w' ∧ Kept b w w'

set_option maxRecDepth 100000 in
set_option maxHeartbeats 4000000 in
theorem policy_any (b : Nat) (sv : Value) (len : Nat) (w : World) (hc : Cur b sv len w) :
    Calls Tryz.prog 72 #[.pointer (some ⟨b, 0, none⟩)] w (PolGot b sv len w) := by
  have HLB := Lib.hid hc.lt
  obtain ⟨W0, hW0⟩ : ∃ x, w.alloc (.cells #[.bool false, .slice none 0 0, .slice none 0 0, .slice none 0 0, .string ⟨#[]⟩] 26) = x := ⟨_, rfl⟩
  have HK0 := Lib.hid (show Kept b w W0 by rw [← hW0]; exact Kept.alloc b w _)
  have HC0 := Lib.hid (show Cur b sv len W0 by rw [← hW0]; exact hc.alloc _)
  have H0 := Lib.hid (show W0.heap[w.heap.size]? = some (.cells #[.bool false, .slice none 0 0, .slice none 0 0, .slice none 0 0, .string ⟨#[]⟩] 26 (0, 0)) by rw [← hW0]; exact heap_alloc_new w _)
  have HW0 := Lib.hid hW0; clear hW0 hc
  go_enter Tryz.func72, Tryz.ntmps72
  go_wp2_with fail
  rw [HW0.out]
  refine (once_any b sv len 2 _ HC0.out).mono ?_
  rintro e w1 ⟨x, rfl, hc1, hk1⟩
  have HBX1 := Lib.hid (show w1.heap[w.heap.size]? = _ from (hk1.block _ (heap_lt H0.out) (by have := HLB.out; omega)).trans H0.out)
  have HK := Lib.hid (HK0.out.trans hk1); have HCU := Lib.hid hc1; clear hc1 hk1
  cases x with
  | true =>
    have y0 := box_cell HBX1.out (j := 0) rfl; have x0 := box_frz HBX1.out 0
    have y1 := box_cell HBX1.out (j := 1) rfl; have x1 := box_frz HBX1.out 1
    have y2 := box_cell HBX1.out (j := 2) rfl; have x2 := box_frz HBX1.out 2
    have y3 := box_cell HBX1.out (j := 3) rfl; have x3 := box_frz HBX1.out 3
    have y4 := box_cell HBX1.out (j := 4) rfl; have x4 := box_frz HBX1.out 4
    go_wp2_with fail
    obtain ⟨w9, hw9⟩ : ∃ x, (((((w1.setCell ⟨w.heap.size, 0, none⟩ (.bool false)).setCell ⟨w.heap.size, 1, none⟩ (.slice none 0 0)).setCell ⟨w.heap.size, 2, none⟩ (.slice none 0 0)).setCell ⟨w.heap.size, 3, none⟩ (.slice none 0 0)).setCell ⟨w.heap.size, 4, none⟩ (.string ⟨#[]⟩)) = x := ⟨_, rfl⟩
    rw [hw9]
    have hon : OnlyB [w.heap.size] w1 w9 := by rw [← hw9]; exact set5_only w1 w.heap.size _ _ _ _ _
    have hb9 := set5_box HBX1.out (.bool false) (.slice none 0 0) (.slice none 0 0) (.slice none 0 0) (.string ⟨#[]⟩)
    rw [show set5 w1 w.heap.size (.bool false) (.slice none 0 0) (.slice none 0 0) (.slice none 0 0) (.string ⟨#[]⟩) = w9 from hw9] at hb9
    have r0 := box_cell hb9 (j := 0) rfl
    have r1 := box_cell hb9 (j := 1) rfl
    have r2 := box_cell hb9 (j := 2) rfl
    have r3 := box_cell hb9 (j := 3) rfl
    have r4 := box_cell hb9 (j := 4) rfl
    refine bodyPost_ret (v := .agg #[.bool false, .slice none 0 0, .slice none 0 0, .slice none 0 0, .string ⟨#[]⟩]) (by simp [results, Tryz.results72, go_sem, r0, r1, r2, r3, r4]) rfl ?_
    have hbl9 : Below w.heap.size w1 w9 := hon.below (fun i hi => by rw [List.mem_singleton] at hi; omega) HK.out.size
    have HN9 := Lib.hid (show ∀ g, w.heap.size < g → g ∉ [w.heap.size] from fun g hg hm => by rw [List.mem_singleton] at hm; omega)
    exact ⟨false, none, 0, 0, none, 0, 0, none, 0, 0, [], [], [], ⟨#[]⟩, w.heap.size, rfl, ⟨World.ownsRow_nil _ _ _ _, fun g hg => by cases hg⟩, Nat.le_refl _, Rd1.none _ _, Rd1.none _ _, ⟨by decide, by decide, by decide, (fun _ h => by cases h), (fun _ h => by cases h), (fun _ h => by cases h), by decide⟩, by decide, HCU.out.keptLoP hbl9 HLB.out, kept_belowP HK.out hbl9 (Nat.le_refl _)⟩
  | false =>
    go_wp2_with fail
    refine (hosts_any b sv len _ HCU.out).mono ?_
    rintro e w2 ⟨a1, n1, c1, xs, rfl, ho1, hl1, hs1, hc1, hk1⟩
    have HBX2 := Lib.hid (show w2.heap[w.heap.size]? = _ from (hk1.block _ (heap_lt HBX1.out) (by have := HLB.out; omega)).trans HBX1.out)
    have HO1 := Lib.hid ho1; have HL1 := Lib.hid hl1; have HS1 := Lib.hid hs1
    have HSZ1 := Lib.hid (show w.heap.size < w1.heap.size from heap_lt HBX1.out)
    have HGR1 := Lib.hid hk1.size
    replace HK := Lib.hid (HK.out.trans hk1); replace HCU := Lib.hid hc1; clear ho1 hl1 hs1 hc1 hk1
    go_wp2_with fail
    refine (hosts_any b sv len _ HCU.out).mono ?_
    rintro e w3 ⟨a2, n2, c2, ys, rfl, ho2, hl2, hs2, hc2, hk2⟩
    have HBX3 := Lib.hid (show w3.heap[w.heap.size]? = _ from (hk2.block _ (heap_lt HBX2.out) (by have := HLB.out; omega)).trans HBX2.out)
    replace HO1 := Lib.hid (ownK_keptP HO1.out hk2 (by have := HLB.out; have := HSZ1.out; omega))
    have HO2 := Lib.hid ho2; have HL2 := Lib.hid hl2; have HS2 := Lib.hid hs2
    have HSZ2 := Lib.hid (show w.heap.size < w2.heap.size from heap_lt HBX2.out)
    have HGR2 := Lib.hid hk2.size
    replace HK := Lib.hid (HK.out.trans hk2); replace HCU := Lib.hid hc2; clear ho2 hl2 hs2 hc2 hk2
    go_wp2_with fail
    refine (hosts_any b sv len _ HCU.out).mono ?_
    rintro e w4 ⟨a3, n3, c3, zs, rfl, ho3, hl3, hs3, hc3, hk3⟩
    have HBX4 := Lib.hid (show w4.heap[w.heap.size]? = _ from (hk3.block _ (heap_lt HBX3.out) (by have := HLB.out; omega)).trans HBX3.out)
    replace HO1 := Lib.hid (ownK_keptP HO1.out hk3 (by have := HLB.out; have := HSZ1.out; omega))
    replace HO2 := Lib.hid (ownK_keptP HO2.out hk3 (by have := HLB.out; have := HSZ2.out; omega))
    have HO3 := Lib.hid ho3; have HL3 := Lib.hid hl3; have HS3 := Lib.hid hs3
    have HSZ3 := Lib.hid (show w.heap.size < w3.heap.size from heap_lt HBX3.out)
    have HGR3 := Lib.hid hk3.size
    replace HK := Lib.hid (HK.out.trans hk3); replace HCU := Lib.hid hc3; clear ho3 hl3 hs3 hc3 hk3
    go_upto_region 4 with (fail)
    obtain ⟨w5, hw5⟩ : ∃ x, w4.alloc (.cells #[.bool true, .slice a1 n1 c1, .slice a2 n2 c2, .slice a3 n3 c3, .string ⟨#[]⟩] 26) = x := ⟨_, rfl⟩
    rw [hw5]
    have hb5 : Below w4.heap.size w4 w5 := by rw [← hw5]; exact bl_aw (Below.refl _ _) _
    have hx5 : w5.heap[w4.heap.size]? = some (.cells #[.bool true, .slice a1 n1 c1, .slice a2 n2 c2, .slice a3 n3 c3, .string ⟨#[]⟩] 26 (0, 0)) := by rw [← hw5]; exact heap_alloc_new w4 _
    have HBX5 := Lib.hid (below_heap hb5 (heap_lt HBX4.out) HBX4.out)
    replace HK := Lib.hid (HK.out.trans (Kept.of_below hb5)); replace HCU := Lib.hid (HCU.out.below hb5)
    replace HO1 := Lib.hid (HO1.out.later hb5)
    replace HO2 := Lib.hid (HO2.out.later hb5)
    replace HO3 := Lib.hid (HO3.out.later hb5)
    clear hb5 hw5
    have hbc : b < w4.heap.size := by have := HLB.out; have := HSZ3.out; have := HGR3.out; omega
    go_wp2_with fail
    refine (once_any b sv len 2 _ HCU.out).mono ?_
    rintro e w6 ⟨y, rfl, hc6, hk6⟩
    have hx6 : w6.heap[w4.heap.size]? = some (.cells #[.bool true, .slice a1 n1 c1, .slice a2 n2 c2, .slice a3 n3 c3, .string ⟨#[]⟩] 26 (0, 0)) := (hk6.block _ (heap_lt hx5) (by omega)).trans hx5
    have HBX6 := Lib.hid (show w6.heap[w.heap.size]? = _ from (hk6.block _ (heap_lt HBX5.out) (by have := HLB.out; omega)).trans HBX5.out)
    replace HK := Lib.hid (HK.out.trans hk6); replace HCU := Lib.hid hc6
    replace HO1 := Lib.hid (ownK_keptP HO1.out hk6 (by have := HLB.out; have := HSZ1.out; omega))
    replace HO2 := Lib.hid (ownK_keptP HO2.out hk6 (by have := HLB.out; have := HSZ2.out; omega))
    replace HO3 := Lib.hid (ownK_keptP HO3.out hk6 (by have := HLB.out; have := HSZ3.out; omega))
    clear hx5 hc6 hk6
    cases y with
    | false =>
      have q0 := box_cell hx6 (j := 0) rfl
      have q1 := box_cell hx6 (j := 1) rfl
      have q2 := box_cell hx6 (j := 2) rfl
      have q3 := box_cell hx6 (j := 3) rfl
      have q4 := box_cell hx6 (j := 4) rfl
      clear hx6
      have y0 := box_cell HBX6.out (j := 0) rfl; have x0 := box_frz HBX6.out 0
      have y1 := box_cell HBX6.out (j := 1) rfl; have x1 := box_frz HBX6.out 1
      have y2 := box_cell HBX6.out (j := 2) rfl; have x2 := box_frz HBX6.out 2
      have y3 := box_cell HBX6.out (j := 3) rfl; have x3 := box_frz HBX6.out 3
      have y4 := box_cell HBX6.out (j := 4) rfl; have x4 := box_frz HBX6.out 4
      go_wp2_with fail
      obtain ⟨w9, hw9⟩ : ∃ x, (((((w6.setCell ⟨w.heap.size, 0, none⟩ (.bool true)).setCell ⟨w.heap.size, 1, none⟩ (.slice a1 n1 c1)).setCell ⟨w.heap.size, 2, none⟩ (.slice a2 n2 c2)).setCell ⟨w.heap.size, 3, none⟩ (.slice a3 n3 c3)).setCell ⟨w.heap.size, 4, none⟩ (.string ⟨#[]⟩)) = x := ⟨_, rfl⟩
      rw [hw9]
      have hon : OnlyB [w.heap.size] w6 w9 := by rw [← hw9]; exact set5_only w6 w.heap.size _ _ _ _ _
      have hb9 := set5_box HBX6.out (.bool true) (.slice a1 n1 c1) (.slice a2 n2 c2) (.slice a3 n3 c3) (.string ⟨#[]⟩)
      rw [show set5 w6 w.heap.size (.bool true) (.slice a1 n1 c1) (.slice a2 n2 c2) (.slice a3 n3 c3) (.string ⟨#[]⟩) = w9 from hw9] at hb9
      have r0 := box_cell hb9 (j := 0) rfl
      have r1 := box_cell hb9 (j := 1) rfl
      have r2 := box_cell hb9 (j := 2) rfl
      have r3 := box_cell hb9 (j := 3) rfl
      have r4 := box_cell hb9 (j := 4) rfl
      refine bodyPost_ret (v := .agg #[.bool true, .slice a1 n1 c1, .slice a2 n2 c2, .slice a3 n3 c3, .string ⟨#[]⟩]) (by simp [results, Tryz.results72, go_sem, r0, r1, r2, r3, r4]) rfl ?_
      have hbl9 : Below w.heap.size w6 w9 := hon.below (fun i hi => by rw [List.mem_singleton] at hi; omega) HK.out.size
      have HN9 := Lib.hid (show ∀ g, w.heap.size < g → g ∉ [w.heap.size] from fun g hg hm => by rw [List.mem_singleton] at hm; omega)
      exact ⟨true, a1, n1, c1, a2, n2, c2, a3, n3, c3, xs, ys, zs, ⟨#[]⟩, w2.heap.size, rfl, ownK_only (HO1.out.mono (Nat.le_of_lt HSZ1.out) (Nat.le_refl _)) hon (fun g hg => HN9.out g (by have := (HO1.out.lt g hg).1; have := HSZ1.out; omega)), Nat.le_of_lt HSZ2.out, (Rd1.of_own HO2.out).only hon (fun g hg => HN9.out g (by have := (HO2.out.lt g hg).1; have := HSZ2.out; omega)), ((Rd1.of_own HO3.out).low HGR2.out).only hon (fun g hg => HN9.out g (by have := (HO3.out.lt g hg).1; have := HSZ3.out; omega)), ⟨by have := HL1.out; omega, HL2.out, by have := HL3.out; omega, HS1.out, HS2.out, HS3.out, by decide⟩, HL1.out, HCU.out.keptLoP hbl9 HLB.out, kept_belowP HK.out hbl9 (Nat.le_refl _)⟩
    | true =>
      have q0 := box_cell hx6 (j := 0) rfl; have z0 := box_frz hx6 0
      have q1 := box_cell hx6 (j := 1) rfl; have z1 := box_frz hx6 1
      have q2 := box_cell hx6 (j := 2) rfl; have z2 := box_frz hx6 2
      have q3 := box_cell hx6 (j := 3) rfl; have z3 := box_frz hx6 3
      have q4 := box_cell hx6 (j := 4) rfl; have z4 := box_frz hx6 4
      go_upto_region 6 with (fail)
      obtain ⟨w7, hw7⟩ : ∃ x, w6.setCell ⟨w4.heap.size, 4, none⟩ (.string ⟨#[110, 55]⟩) = x := ⟨_, rfl⟩
      rw [hw7]
      have hon7 : OnlyB [w4.heap.size] w6 w7 := by rw [← hw7]; exact (OnlyB.refl _ w6).set (by simp)
      have hx7 := heap_one (o := 4) hx6 (.string ⟨#[110, 55]⟩); rw [hw7] at hx7
      have HX7 := Lib.hid (show w7.heap[w4.heap.size]? = some (.cells #[.bool true, .slice a1 n1 c1, .slice a2 n2 c2, .slice a3 n3 c3, .string ⟨#[110, 55]⟩] 26 (0, 0)) from hx7)
      have HBX7 := Lib.hid (show w7.heap[w.heap.size]? = _ from (hon7.block _ (heap_lt HBX6.out) (by rw [List.mem_singleton]; have := HSZ3.out; have := HGR3.out; omega)).trans HBX6.out)
      have hbl7 : Below w4.heap.size w6 w7 := hon7.below (fun i hi => by rw [List.mem_singleton] at hi; omega) (Nat.le_of_lt (heap_lt hx6))
      replace HCU := Lib.hid (HCU.out.keptLoP hbl7 hbc); replace HK := Lib.hid (kept_belowP HK.out (hbl7.mono (Nat.le_of_lt (by have := HSZ3.out; have := HGR3.out; omega))) (Nat.le_refl _))
      replace HO1 := Lib.hid (ownK_only HO1.out hon7 (fun g hg hm => by rw [List.mem_singleton] at hm; have := HO1.out.2 g hg; have := HGR2.out; have := HGR3.out; omega))
      replace HO2 := Lib.hid (ownK_only HO2.out hon7 (fun g hg hm => by rw [List.mem_singleton] at hm; have := HO2.out.2 g hg; have := HGR3.out; omega))
      replace HO3 := Lib.hid (ownK_only HO3.out hon7 (fun g hg hm => by rw [List.mem_singleton] at hm; have := HO3.out.2 g hg; omega))
      clear hx6 hx7 hw7 hon7 hbl7 q0 q1 q2 q3 q4 z0 z1 z2 z3 z4
      have q0 := box_cell HX7.out (j := 0) rfl
      have q1 := box_cell HX7.out (j := 1) rfl
      have q2 := box_cell HX7.out (j := 2) rfl
      have q3 := box_cell HX7.out (j := 3) rfl
      have q4 := box_cell HX7.out (j := 4) rfl
      have y0 := box_cell HBX7.out (j := 0) rfl; have x0 := box_frz HBX7.out 0
      have y1 := box_cell HBX7.out (j := 1) rfl; have x1 := box_frz HBX7.out 1
      have y2 := box_cell HBX7.out (j := 2) rfl; have x2 := box_frz HBX7.out 2
      have y3 := box_cell HBX7.out (j := 3) rfl; have x3 := box_frz HBX7.out 3
      have y4 := box_cell HBX7.out (j := 4) rfl; have x4 := box_frz HBX7.out 4
      go_wp2_with fail
      obtain ⟨w9, hw9⟩ : ∃ x, (((((w7.setCell ⟨w.heap.size, 0, none⟩ (.bool true)).setCell ⟨w.heap.size, 1, none⟩ (.slice a1 n1 c1)).setCell ⟨w.heap.size, 2, none⟩ (.slice a2 n2 c2)).setCell ⟨w.heap.size, 3, none⟩ (.slice a3 n3 c3)).setCell ⟨w.heap.size, 4, none⟩ (.string ⟨#[110, 55]⟩)) = x := ⟨_, rfl⟩
      rw [hw9]
      have hon : OnlyB [w.heap.size] w7 w9 := by rw [← hw9]; exact set5_only w7 w.heap.size _ _ _ _ _
      have hb9 := set5_box HBX7.out (.bool true) (.slice a1 n1 c1) (.slice a2 n2 c2) (.slice a3 n3 c3) (.string ⟨#[110, 55]⟩)
      rw [show set5 w7 w.heap.size (.bool true) (.slice a1 n1 c1) (.slice a2 n2 c2) (.slice a3 n3 c3) (.string ⟨#[110, 55]⟩) = w9 from hw9] at hb9
      have r0 := box_cell hb9 (j := 0) rfl
      have r1 := box_cell hb9 (j := 1) rfl
      have r2 := box_cell hb9 (j := 2) rfl
      have r3 := box_cell hb9 (j := 3) rfl
      have r4 := box_cell hb9 (j := 4) rfl
      refine bodyPost_ret (v := .agg #[.bool true, .slice a1 n1 c1, .slice a2 n2 c2, .slice a3 n3 c3, .string ⟨#[110, 55]⟩]) (by simp [results, Tryz.results72, go_sem, r0, r1, r2, r3, r4]) rfl ?_
      have hbl9 : Below w.heap.size w7 w9 := hon.below (fun i hi => by rw [List.mem_singleton] at hi; omega) HK.out.size
      have HN9 := Lib.hid (show ∀ g, w.heap.size < g → g ∉ [w.heap.size] from fun g hg hm => by rw [List.mem_singleton] at hm; omega)
      exact ⟨true, a1, n1, c1, a2, n2, c2, a3, n3, c3, xs, ys, zs, ⟨#[110, 55]⟩, w2.heap.size, rfl, ownK_only (HO1.out.mono (Nat.le_of_lt HSZ1.out) (Nat.le_refl _)) hon (fun g hg => HN9.out g (by have := (HO1.out.lt g hg).1; have := HSZ1.out; omega)), Nat.le_of_lt HSZ2.out, (Rd1.of_own HO2.out).only hon (fun g hg => HN9.out g (by have := (HO2.out.lt g hg).1; have := HSZ2.out; omega)), ((Rd1.of_own HO3.out).low HGR2.out).only hon (fun g hg => HN9.out g (by have := (HO3.out.lt g hg).1; have := HSZ3.out; omega)), ⟨by have := HL1.out; omega, HL2.out, by have := HL3.out; omega, HS1.out, HS2.out, HS3.out, by decide⟩, HL1.out, HCU.out.keptLoP hbl9 HLB.out, kept_belowP HK.out hbl9 (Nat.le_refl _)⟩

end Go.Proofs.YtkjjiinccljhjaaGreatDoor
namespace Go.Proofs.YtkjjiinccljhjaaGreatDoor
open Go.ChangeShapes Go.WideShapes Go.ChangeAt Go.RowKit

theorem cells_blkS {w : World} {g : Nat} {C : Array Value} {T : TypeId} (m : Nat) (hq : w.heap[g]? = some (.cells C T (0, 0))) (hm : C.size = m) (h : C.all strCell = true) : ∀ j, j < m → ∃ s : ByteArray, s.size ≤ 100 ∧ w.cell? ⟨g, j, none⟩ = some (.string s) := by
  subst hm
  intro j hj
  have h1 : strCell C[j] = true := by rw [Array.all_eq_true] at h; exact h j hj
  have h2 : w.cell? ⟨g, j, none⟩ = some C[j] := box_cell hq (by simp [hj])
  rw [h2]
  cases hc : C[j] with
  | string s => rw [hc] at h1; simp only [strCell, decide_eq_true_eq] at h1; exact ⟨s, h1, rfl⟩
  | _ => rw [hc] at h1; simp [strCell] at h1
theorem readsS_blk {w : World} {g : Nat} {s : ByteArray} (hg : w.heap[g]? = some (.cells #[.string s] 9 (0, 0))) : ReadsK encS 1 (g + 1) w (.slice (some ⟨g, 0, none⟩) 1 1) [s] := by
  refine ⟨_, 1, rfl, by simp, by omega, (fun h => by cases h), Or.inr ⟨_, 0, rfl, by omega, fun j x hj i hi => ?_⟩⟩
  have : j = 0 := by have := (List.getElem?_eq_some_iff.1 hj).1; simp at this; omega
  subst this
  obtain rfl : i = 0 := by omega
  cases hj
  exact box_cell hg rfl
theorem readsS_5 {w : World} {g : Nat} {s1 s2 s3 s4 s5 : ByteArray} (hg : w.heap[g]? = some (.cells #[.string s1, .string s2, .string s3, .string s4, .string s5] 9 (0, 0))) : ReadsK encS 1 (g + 1) w (.slice (some ⟨g, 0, none⟩) 5 5) [s1, s2, s3, s4, s5] := by
  refine ⟨_, 5, rfl, by simp, by omega, (fun h => by cases h), Or.inr ⟨_, 0, rfl, by omega, fun j x hj i hi => ?_⟩⟩
  obtain rfl : i = 0 := by omega
  match j, hj with
  | 0, hj => cases hj; exact box_cell hg rfl
  | 1, hj => cases hj; exact box_cell hg rfl
  | 2, hj => cases hj; exact box_cell hg rfl
  | 3, hj => cases hj; exact box_cell hg rfl
  | 4, hj => cases hj; exact box_cell hg rfl
theorem step_appSL {w : World} {ops : Array Oper} {o : Oper} {a : Act} {K : Act → World → Prop} {Q : Exit → Act → World → Prop} {E : Prop} (hgd : o.guard = none) (s x : Operand)
    (ho : o.op = .call { callee := .builtin .append, args := #[s, x], argTypes := #[24, 24] })
    (B : Nat) (v : Value) (xs : List ByteArray) (hs : a.eval s = v) (hown : w.ownsRow B 9 1 v xs.length (xs.flatMap encS)) (ad : Addr) (c : Nat) (top : Nat) (y : ByteArray) (hx : a.eval x = .slice (some ad) 1 c) (hr : ReadsK encS 1 top w (.slice (some ad) 1 c) [y])
    (hlen : xs.length ≤ 1000) (hB : B ≤ w.heap.size)
    (h : ∀ g n cap w', w'.ownsRow B 9 1 (.slice (some ⟨g, 0, none⟩) n cap) (xs ++ [y]).length ((xs ++ [y]).flatMap encS) → w.grownBy w' v.ownBlock → (v.ownBlock = some g ∨ g = w.heap.size) → g < w'.heap.size → K (a.put o.dst (.slice (some ⟨g, 0, none⟩) n cap)) w') :
    if Region.wanted o (yielded ops a.tmps) = true then Oper.wp Tryz.prog o a w K Q else E := by
  obtain ⟨i, hi, hz, hsize, hby⟩ := info_parts infoStr
  refine step_append_lies _ hgd s x _ ho B _ i _ 1 16 Tryz.underlying24 hi hz hsize hby (by rfl) (by decide) v xs.length _ hs hown ad 1 c ([y].flatMap encS) hx (by rfl) (hr.news encS_len) ?_ (by decide) (by unfold maxLen; omega) (by omega) hB w.heap.size rfl ?_
  · intro u hu
    obtain ⟨z, _, hz⟩ := List.mem_flatMap.1 hu
    exact encS_one z u hz
  · intro g cap w' h1 h2 h3 h4
    refine h g _ cap w' ?_ h2 h3 h4
    rw [List.flatMap_append, List.length_append, List.length_singleton]; exact h1
/-- A drawn policy in a box of its own, the box of the answer. -/
structure PAt (b : Nat) (sv : Value) (len : Nat) (w W : World) (c h1 : Nat) (bo : Bool) (v1 v2 v3 : Value) (t : ByteArray) (xs ys zs : List ByteArray) : Prop where
  lb : b < w.heap.size
  lc : w.heap.size < c
  cur : Cur b sv len W
  kept : Kept b w W
  o1 : OwnK encS 1 9 (w.heap.size + 1) h1 W v1 xs
  r2 : Rd1 h1 W v2 ys
  r3 : Rd1 h1 W v3 zs
  lh : w.heap.size + 1 ≤ h1
  a1 : v1.ownBlock ≠ some c
  a2 : v2.ownBlock ≠ some c
  a3 : v3.ownBlock ≠ some c
  bx : W.heap[w.heap.size]? = some (.cells #[.bool false, .slice none 0 0, .slice none 0 0, .slice none 0 0, .string ⟨#[]⟩] 26 (0, 0))
  bc : W.heap[c]? = some (.cells #[.bool bo, v1, v2, v3, .string t] 26 (0, 0))
section
variable {b : Nat} {sv : Value} {len : Nat} {w W W' : World} {c h1 : Nat} {bo : Bool} {v1 v2 v3 : Value} {t : ByteArray} {xs ys zs : List ByteArray}
theorem PAt.draw (h : PAt b sv len w W c h1 bo v1 v2 v3 t xs ys zs) (hc : Cur b sv len W') (hk : Kept b W W') : PAt b sv len w W' c h1 bo v1 v2 v3 t xs ys zs := by
  have lb := h.lb; have lc := h.lc; have lh := h.lh
  exact ⟨lb, lc, hc, h.kept.trans hk, ownK_keptP h.o1 hk (by omega), h.r2.kept hk (by omega), h.r3.kept hk (by omega), lh, h.a1, h.a2, h.a3, (hk.block _ (heap_lt h.bx) (by omega)).trans h.bx, (hk.block _ (heap_lt h.bc) (by omega)).trans h.bc⟩
theorem PAt.on (h : PAt b sv len w W c h1 bo v1 v2 v3 t xs ys zs) (hb : Below W.heap.size W W') : PAt b sv len w W' c h1 bo v1 v2 v3 t xs ys zs := h.draw (h.cur.below hb) (Kept.of_below hb)
/-- A string more among the first hosts. -/
theorem PAt.app (h : PAt b sv len w W c h1 bo v1 v2 v3 t xs ys zs) {g n k : Nat} {s : ByteArray} (hown : W'.ownsRow (w.heap.size + 1) 9 1 (.slice (some ⟨g, 0, none⟩) n k) (xs ++ [s]).length ((xs ++ [s]).flatMap encS)) (hg : W.grownBy W' v1.ownBlock) (hl : v1.ownBlock = some g ∨ g = W.heap.size) :
    Cur b sv len W' ∧ Kept b w W' ∧ Rd1 (w.heap.size + 1) W' (.slice (some ⟨g, 0, none⟩) n k) (xs ++ [s]) ∧ Rd1 h1 W' v2 ys ∧ Rd1 h1 W' v3 zs ∧ g ≠ c ∧ W'.heap[w.heap.size]? = some (.cells #[.bool false, .slice none 0 0, .slice none 0 0, .slice none 0 0, .string ⟨#[]⟩] 26 (0, 0)) ∧ W'.heap[c]? = some (.cells #[.bool bo, v1, v2, v3, .string t] 26 (0, 0)) := by
  have lb := h.lb; have lc := h.lc; have lh := h.lh
  have hon := OnlyB.of_grown hg
  have hbl : Below (w.heap.size + 1) W W' := hon.below (fun i hi => by
    cases hv : v1.ownBlock with
    | none => rw [hv] at hi; cases hi
    | some q => rw [hv] at hi; have := (h.o1.lt q hv).1; have : i = q := by simpa using hi
                omega) (Nat.le_trans (Nat.succ_le_of_lt (heap_lt h.bx)) (Nat.le_refl _))
  have far : ∀ q, h1 ≤ q → q ∉ v1.ownBlock.toList := fun q hq hm => by
    have hv : v1.ownBlock = some q := by simpa using hm
    have := h.o1.2 q hv; omega
  refine ⟨h.cur.keptLoP hbl (by omega), kept_belowP h.kept hbl (by omega), Rd1.of_own (hi := W'.heap.size) ⟨hown, fun q hq => (hown.lt q hq).2⟩, h.r2.only hon fun q hq => far q (h.r2.2 q hq).1, h.r3.only hon fun q hq => far q (h.r3.2 q hq).1, ?_, (hbl.block _ (by omega)).trans h.bx, (hg.block _ (heap_lt h.bc) (fun e => h.a1 e.symm)).trans h.bc⟩
  rcases hl with hl | hl
  · exact fun e => h.a1 (by rw [hl, e])
  · have := heap_lt h.bc; omega
end

end Go.Proofs.YtkjjiinccljhjaaGreatDoor

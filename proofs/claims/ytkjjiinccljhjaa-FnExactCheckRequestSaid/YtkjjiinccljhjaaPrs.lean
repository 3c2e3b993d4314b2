/- Helper contracts: ParseAddr of the program and of the model answer alike. Asked: the strings are shorter than 2^62 bytes. -/
import Derived.Test.YtkjjiinccljhjaaAdr
import Derived.Test.YtkjjiinccljhjaaCut
namespace Go.Proofs.Ytkjjiinccljhjaa
open Go.ChangeShapes Go.WideShapes Go.ChangeAt Go.RowKit

/-- The two parts of a text: by the first slash, or the base and the whole. -/
def parts (s base : ByteArray) : Ad := match slashAt s.data.toList with
  | none => (base, s)
  | some i => (s.extract 0 i, s.extract (i + 1) s.size)
def prsA (s base : ByteArray) : Ad × Bool := if isAd (parts s base) = true then (parts s base, true) else ((⟨#[]⟩, ⟨#[]⟩), false)
def prsV (r : Ad × Bool) : Value := .tuple #[.agg #[.string r.1.1, .string r.1.2], .bool r.2]
theorem prsA_yes {s base : ByteArray} {h p : ByteArray} (hp : parts s base = (h, p)) (h1 : isAd (h, p) = true) : prsV (prsA s base) = .tuple #[.agg #[.string h, .string p], .bool true] := by
  unfold prsA; rw [hp, if_pos h1]; rfl
theorem prsA_no {s base : ByteArray} {h p : ByteArray} (hp : parts s base = (h, p)) (h1 : isAd (h, p) = false) : prsV (prsA s base) = .tuple #[.agg #[.string ⟨#[]⟩, .string ⟨#[]⟩], .bool false] := by
  unfold prsA; rw [hp, if_neg (by rw [h1]; exact Bool.false_ne_true)]; rfl
theorem parts_none {s base : ByteArray} (h : slashAt s.data.toList = none) : parts s base = (base, s) := by unfold parts; rw [h]
theorem parts_some {s base : ByteArray} {i : Nat} (h : slashAt s.data.toList = some i) : parts s base = (s.extract 0 i, s.extract (i + 1) s.size) := by unfold parts; rw [h]
theorem extract_le (s : ByteArray) (a b : Nat) : (s.extract a b).size ≤ s.size := by
  rw [ByteArray.size_extract]; omega
theorem parts_size {s base h p : ByteArray} (hp : parts s base = (h, p)) (hs : s.size ≤ 4611686018427387904) (hb : base.size ≤ 4611686018427387904) : h.size ≤ 4611686018427387904 ∧ p.size ≤ 4611686018427387904 := by
  unfold parts at hp
  split at hp <;> cases hp
  · exact ⟨hb, hs⟩
  · have h1 := extract_le s 0 ‹_›
    have h2 := extract_le s (‹_› + 1) s.size
    omega
theorem cutV_none {s : ByteArray} (h : slashAt s.data.toList = none) : cutV s = .tuple #[.string s, .string ⟨#[]⟩, .bool false] := by unfold cutV; rw [h]
theorem cutV_some {s : ByteArray} {i : Nat} (h : slashAt s.data.toList = some i) : cutV s = .tuple #[.string (s.extract 0 i), .string (s.extract (i + 1) s.size), .bool true] := by unfold cutV; rw [h]

/-- Two cells of one block, both stored. -/
theorem heap_two {w : World} {b : Nat} {x y u v : Value} {T : TypeId} (h : w.heap[b]? = some (.cells #[x, y] T (0, 0))) : ((w.setCell ⟨b, 0, none⟩ u).setCell ⟨b, 1, none⟩ v).heap[b]? = some (.cells #[u, v] T (0, 0)) := by
  have h1 : (w.setCell ⟨b, 0, none⟩ u).heap[b]? = some (.cells #[u, y] T (0, 0)) := by rw [heap_setCell_same w b 0 _ T u h]; rfl
  rw [heap_setCell_same _ b 1 _ T v h1]; rfl
theorem cells_two {w : World} {b : Nat} {u v : Value} {T : TypeId} (h : w.heap[b]? = some (.cells #[u, v] T (0, 0))) : w.cell? ⟨b, 0, none⟩ = some u ∧ w.cell? ⟨b, 1, none⟩ = some v ∧ w.frozen? ⟨b, 0, none⟩ = false ∧ w.frozen? ⟨b, 1, none⟩ = false := by
  refine ⟨?_, ?_, ?_, ?_⟩
  · unfold World.cell?; rw [h]; rfl
  · unfold World.cell?; rw [h]; rfl
  · unfold World.frozen?; rw [h]; rfl
  · unfold World.frozen?; rw [h]; rfl

/-- Two new blocks, and draws between: what lies behind a call that writes nothing old. -/
theorem two_new (w : World) (o1 o2 : Obj) (n : Nat) {w2 : World} (hb : Below (((w.alloc o1).drewN n).alloc o2).heap.size (((w.alloc o1).drewN n).alloc o2) w2) :
    w2.heap[w.heap.size]? = some o1 ∧ w2.heap[w.heap.size + 1]? = some o2 ∧ Below w.heap.size w w2 ∧ w.heap.size + 2 ≤ w2.heap.size := by
  have s1 : (w.alloc o1).heap.size = w.heap.size + 1 := by show (w.heap.push _).size = _; simp
  have s2 : (((w.alloc o1).drewN n).alloc o2).heap.size = w.heap.size + 2 := by
    show (((w.alloc o1).heap.push o2)).size = _
    rw [Array.size_push, s1]
  have k0 : (((w.alloc o1).drewN n).alloc o2).heap[w.heap.size]? = some o1 := by
    rw [Below.heap_alloc ((w.alloc o1).drewN n) o2 w.heap.size (by show _ < (w.alloc o1).heap.size; omega)]
    exact heap_alloc_new w o1
  have k1 : (((w.alloc o1).drewN n).alloc o2).heap[w.heap.size + 1]? = some o2 := by
    have h := heap_alloc_new ((w.alloc o1).drewN n) o2
    rw [show ((w.alloc o1).drewN n).heap.size = w.heap.size + 1 from s1] at h
    exact h
  rw [s2] at hb
  refine ⟨by rw [hb.block _ (by omega)]; exact k0, by rw [hb.block _ (by omega)]; exact k1, ?_, by have := hb.size; omega⟩
  have h1 : Below w.heap.size w (((w.alloc o1).drewN n).alloc o2) :=
    (Below.trans ((Below.refl w.heap.size w).alloc (Nat.le_refl _) o1) (⟨rfl, rfl, rfl, Nat.le_refl _, fun _ _ => rfl⟩ : Below w.heap.size (w.alloc o1) ((w.alloc o1).drewN n))).alloc (by show _ ≤ (w.alloc o1).heap.size; omega) o2
  exact h1.trans (hb.mono (by omega))
/-- A block from B on is written. -/
theorem below_two {B : Nat} {w w2 : World} (h : Below B w w2) {b : Nat} (hb : B ≤ b) (u v : Value) : Below B w ((w2.setCell ⟨b, 0, none⟩ u).setCell ⟨b, 1, none⟩ v) :=
  (h.setCell hb _).setCell hb _

def noSl (s : ByteArray) (k : Nat) : Prop := ∀ j : Nat, j < k → s.data.toList[j]? ≠ some 47
theorem noSl.succ {s : ByteArray} {k : Nat} (h : noSl s k) (hk : k < s.size) (h1 : s[k] ≠ 47) : noSl s (k + 1) := by
  intro j hj
  by_cases e : j = k
  · subst e; rw [get_at hk]; simpa using h1
  · exact h j (by omega)
theorem noSl.none {s : ByteArray} {k : Nat} (h : noSl s k) (hk : k = s.size) : slashAt s.data.toList = .none := by
  refine slashAt_of_none fun j => ?_
  by_cases e : j < k
  · exact h j e
  · rw [List.getElem?_eq_none (by rw [Array.length_toList]; show s.size ≤ j; omega)]; simp
theorem noSl.some {s : ByteArray} {k : Nat} (h : noSl s k) (hk : k < s.size) (h1 : s[k] = 47) : slashAt s.data.toList = .some k :=
  slashAt_of_first (by rw [get_at hk, h1]) h
theorem byte47 {b : UInt8} : (b.toNat : Int) = 47 ↔ b = 47 := by
  constructor
  · intro h
    apply UInt8.toNat_inj.1
    have e : (47 : UInt8).toNat = 47 := rfl
    omega
  · intro h; subst h; rfl

theorem two_newD (w : World) (o1 o2 : Obj) (n : Nat) {w2 : World} (hb : Below (((w.alloc o1).alloc o2).drewN n).heap.size (((w.alloc o1).alloc o2).drewN n) w2) :
    w2.heap[w.heap.size]? = some o1 ∧ w2.heap[w.heap.size + 1]? = some o2 ∧ Below w.heap.size w w2 ∧ w.heap.size + 2 ≤ w2.heap.size := by
  have h0 : Below (((w.alloc o1).alloc o2).drewN n).heap.size (((w.alloc o1).drewN 0).alloc o2) (((w.alloc o1).alloc o2).drewN n) := ⟨rfl, rfl, rfl, Nat.le_refl _, fun _ _ => rfl⟩
  exact two_new w o1 o2 0 (h0.trans hb)

end Go.Proofs.Ytkjjiinccljhjaa

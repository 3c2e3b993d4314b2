/- Helper contracts: DeriveFromString of the program and of the model answer alike. Asked: the string is no longer than 2^20. -/
import Derived.Test.YtgcdfkpidcdicaaDoorKeyed
import Derived.Laws.IdiomStrings
namespace Go.Proofs.YtgcdfkpidcdicaaDoor
open Go.ChangeShapes Go.WideShapes Go.ChangeAt Go.RowKit

/-- A string's bytes as numbers. -/
def sbytes (s : ByteArray) : List Int := s.data.toList.map fun b => (b.toNat : Int)
theorem sbytes_len (s : ByteArray) : (sbytes s).length = s.size := by
  simp [sbytes]
theorem sbytes_bytes (s : ByteArray) : Bytes (sbytes s) := by
  intro z hz
  simp only [sbytes, List.mem_map] at hz
  obtain ⟨b, _, rfl⟩ := hz
  have := b.toNat_lt
  omega
theorem reads_conv_of (s : ByteArray) (w : World) (c : Nat) (f : Nat × Nat) (h1 : s.size ≤ c) (h2 : c ≤ 9223372036854775807) :
    Reads .u8 (w.heap.size + 1) (w.alloc (.cells (bytesRow s c) 5 f)) (.slice (some ⟨w.heap.size, 0, none⟩) s.size c) (sbytes s) := by
  refine ⟨some ⟨w.heap.size, 0, none⟩, c, by rw [sbytes_len], by rw [sbytes_len]; exact h1, h2, (fun h => by cases h), Or.inr ⟨w.heap.size, 0, rfl, by omega, fun j hj => ?_⟩⟩
  rw [sbytes_len] at hj
  have h3 : (w.alloc (.cells (bytesRow s c) 5 f)).heap[w.heap.size]? = some (.cells (bytesRow s c) 5 f) := by
    show (w.heap.push _)[w.heap.size]? = _
    simp
  have hj2 : j < s.data.size := hj
  have h4 : (bytesRow s c)[j]? = some (.int .u8 (s.data[j].toNat : Int)) := by
    unfold bytesRow
    rw [Array.getElem?_append_left (by simpa using hj2), Array.getElem?_map, Array.getElem?_eq_getElem hj2]
    rfl
  have h5 : (sbytes s).getD j 0 = (s.data[j].toNat : Int) := by
    rw [List.getD_eq_getElem?_getD]
    simp only [sbytes, List.getElem?_map, Array.getElem?_toList, Array.getElem?_eq_getElem hj2]
    rfl
  rw [h5, Nat.zero_add]
  unfold World.cell?
  rw [h3]
  simpa using h4

/-- A string's bytes in a new slice: of what lay in memory nothing is written. -/
theorem conv_below (w : World) (o : Obj) : Below w.heap.size w (w.drew.alloc o) := (Below.refl _ _).drew.alloc (Nat.le_refl _) _

def derive (k : Int) (s : ByteArray) : Int := maxI 1 (kh k (b2i (sbytes s)))
theorem derive_zero {k : Int} {s : ByteArray} (h : kh k (b2i (sbytes s)) = 0) : derive k s = 1 := by unfold derive maxI; rw [h]; rfl
theorem derive_else {k : Int} {s : ByteArray} (h : ¬ kh k (b2i (sbytes s)) = 0) : derive k s = kh k (b2i (sbytes s)) := by
  have := kh_bd k (b2i (sbytes s))
  unfold derive maxI
  split <;> omega
theorem derive_bd (k : Int) (s : ByteArray) : 1 ≤ derive k s ∧ derive k s ≤ 2147483646 := by
  have := kh_bd k (b2i (sbytes s))
  unfold derive maxI
  split <;> omega

end Go.Proofs.YtgcdfkpidcdicaaDoor

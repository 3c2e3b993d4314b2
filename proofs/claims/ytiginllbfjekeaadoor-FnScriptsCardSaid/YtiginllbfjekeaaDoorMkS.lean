/- MarkupOf of the model: a string's square brackets become angle brackets. Asked: the string is no longer than 2^40 bytes. -/
import Derived.Test.YtiginllbfjekeaaDoorStr
import Derived.Test.YtiginllbfjekeaaDoorOwn
import Derived.Laws.IdiomStrings
import Derived.Laws.BytesArg
namespace Go.Proofs.YtiginllbfjekeaaDoor
open Go.ChangeShapes Go.WideShapes Go.ChangeAt Go.RowKit

def mkC (c : UInt8) : UInt8 := if c = 91 then 60 else if c = 93 then 62 else c
def mkU (s : ByteArray) : ByteArray := ofL (s.data.toList.map mkC)
theorem mkC_91 : mkC 91 = 60 := rfl
theorem mkC_93 : mkC 93 = 62 := rfl
theorem mkC_no {c : UInt8} (h1 : c ≠ 91) (h2 : c ≠ 93) : mkC c = c := by unfold mkC; rw [if_neg h1, if_neg h2]
theorem mkC_two (c : UInt8) : mkC (mkC c) = mkC c := by
  by_cases h1 : c = 91
  · subst h1; rfl
  by_cases h2 : c = 93
  · subst h2; rfl
  rw [mkC_no h1 h2, mkC_no h1 h2]
theorem mkU_size (s : ByteArray) : (mkU s).size = s.size := by
  have h : (mkU s).size = (s.data.toList.map mkC).length := ofL_size _
  rw [h, List.length_map, size_list]
theorem mkU_list (s : ByteArray) : (mkU s).data.toList = s.data.toList.map mkC := ofL_list _
theorem mkU_two (s : ByteArray) : mkU (mkU s) = mkU s := by
  refine bytesEq ?_
  rw [mkU_list, mkU_list, List.map_map]
  exact List.map_congr_left fun c _ => mkC_two c
/-- The byte at j, when k bytes have been looked at. -/
def mAt (s : ByteArray) (k j : Nat) : UInt8 := if j < k then mkC (s.data.toList.getD j 0) else s.data.toList.getD j 0
theorem mAt_else {s : ByteArray} {k j : Nat} (h : j ≠ k) : mAt s (k + 1) j = mAt s k j := by
  unfold mAt
  by_cases h1 : j < k
  · rw [if_pos h1, if_pos (by omega)]
  · rw [if_neg h1, if_neg (by omega)]
theorem mAt_new (s : ByteArray) (k : Nat) : mAt s (k + 1) k = mkC (s.data.toList.getD k 0) := by unfold mAt; rw [if_pos (by omega)]
theorem mAt_old (s : ByteArray) (k : Nat) : mAt s k k = s.data.toList.getD k 0 := by unfold mAt; rw [if_neg (by omega)]
theorem mAt_full {s : ByteArray} {k : Nat} (h : k = s.size) : strOfNums ((List.range k).map fun j => ((mAt s k j).toNat : Int)) = mkU s := by
  subst h
  refine bytesEq ?_
  rw [strOfNums_data, mkU_list, List.map_map]
  apply List.ext_getElem?
  intro i
  rw [List.getElem?_map, List.getElem?_map]
  by_cases hi : i < s.size
  · have h1 : s.data.toList[i]? = some (s.data.toList.getD i 0) := by
      rw [List.getD_eq_getElem?_getD, List.getElem?_eq_getElem (by rw [size_list]; exact hi)]; rfl
    rw [h1, List.getElem?_range hi]
    simp [hi, mAt]
  · have h1 : s.data.toList[i]? = none := List.getElem?_eq_none (by rw [size_list]; omega)
    rw [h1]
    simp [hi]
/-- What stands in the model's loop. -/
structure MkL (s : ByteArray) (b k : Nat) (w wr : World) : Prop where
  c : ∀ j, j < s.size → wr.cell? ⟨b, j, none⟩ = some (.int .u8 ((mAt s k j).toNat : Int))
  f : ∀ j, j < s.size → wr.frozen? ⟨b, j, none⟩ = false
  l : w.heap.size ≤ b
  bl : Below w.heap.size w wr
theorem addr_ne {b j k : Nat} (h : j ≠ k) : (⟨b, k, none⟩ : Addr) ≠ ⟨b, j, none⟩ := fun e => by injection e with _ e2 _; exact h e2.symm
theorem MkL.put {s : ByteArray} {b k : Nat} {w wr : World} {n : Int} (h : MkL s b k w wr) (hk : k < s.size) (hn : n = ((mkC (s.data.toList.getD k 0)).toNat : Int)) : MkL s b (k + 1) w (wr.setCell ⟨b, k, none⟩ (.int .u8 n)) := by
  subst hn
  refine ⟨fun j hj => ?_, fun j hj => ?_, h.l, h.bl.setCell h.l _⟩
  · by_cases e : j = k
    · subst e
      rw [World.cell?_setCell_same _ _ _ (h.c j hj), mAt_new]
    · rw [World.cell?_setCell_other _ _ _ _ (addr_ne e), mAt_else e]; exact h.c j hj
  · exact (World.frozen?_setCell _ _ _ _).trans (h.f j hj)
theorem MkL.skip {s : ByteArray} {b k : Nat} {w wr : World} (h : MkL s b k w wr) (hn : mkC (s.data.toList.getD k 0) = s.data.toList.getD k 0) : MkL s b (k + 1) w wr := by
  refine ⟨fun j hj => ?_, h.f, h.l, h.bl⟩
  by_cases e : j = k
  · subst e
    rw [mAt_new, hn, ← mAt_old]; exact h.c j hj
  · rw [mAt_else e]; exact h.c j hj
theorem mkL_start (s : ByteArray) (w : World) (c : Nat) :
    MkL s w.heap.size 0 w (w.drew.alloc (.cells (bytesRow s c) 5 ((bytesRow s c).size, (bytesRow s c).size + 1))) := by
  obtain ⟨w1, hw1⟩ : ∃ x, w.drew.alloc (.cells (bytesRow s c) 5 ((bytesRow s c).size, (bytesRow s c).size + 1)) = x := ⟨_, rfl⟩
  have h3 : w1.heap[w.heap.size]? = some (.cells (bytesRow s c) 5 ((bytesRow s c).size, (bytesRow s c).size + 1)) := by
    rw [← hw1]
    show (w.heap.push _)[w.heap.size]? = _
    simp
  have hb : Below w.heap.size w w1 := by rw [← hw1]; exact (Below.refl _ _).drew.alloc (Nat.le_refl _) _
  have hz : s.size ≤ (bytesRow s c).size := by unfold bytesRow; rw [Array.size_append, Array.size_map]; exact Nat.le_add_right _ _
  rw [hw1]
  refine ⟨fun j hj => ?_, fun j hj => ?_, Nat.le_refl _, hb⟩
  · have hj2 : j < s.data.size := hj
    have h4 : (bytesRow s c)[j]? = some (.int .u8 (s.data[j].toNat : Int)) := by
      unfold bytesRow
      rw [Array.getElem?_append_left (by simpa using hj2), Array.getElem?_map, Array.getElem?_eq_getElem hj2]
      rfl
    have h5 : mAt s 0 j = s.data[j] := by
      unfold mAt
      rw [if_neg (by omega), List.getD_eq_getElem?_getD, Array.getElem?_toList, Array.getElem?_eq_getElem hj2]; rfl
    rw [h5]
    unfold World.cell?
    rw [h3]
    simpa using h4
  · unfold World.frozen?
    rw [h3]
    simp
    omega
theorem byte_int {s : ByteArray} {k : Nat} : (0 : Int) ≤ ((s.data.toList.getD k 0).toNat : Int) ∧ ((s.data.toList.getD k 0).toNat : Int) < 256 := by
  have := (s.data.toList.getD k 0).toNat_lt
  omega
theorem u8_int {c d : UInt8} (h : (c.toNat : Int) = (d.toNat : Int)) : c = d := UInt8.toNat_inj.1 (by omega)
end Go.Proofs.YtiginllbfjekeaaDoor

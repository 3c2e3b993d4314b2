/- What a slice argument that came in reads as, for the walks: the list of its elements. Helper facts, no claim of its own. -/
import Derived.Test.YtpkicliimhflgaaRowOf
import Derived.Test.YtpkicliimhflgaaOwn
namespace Go.Proofs.Ytpkicliimhflgaa
open Go.ChangeShapes Go.WideShapes Go.ChangeAt Go.RowKit

theorem i64_range {n : Int} (h : (Lit.int .i64 n).wf = true) : -9223372036854775808 ≤ n ∧ n ≤ 9223372036854775807 := int_range h
theorem reads_of_row {k : IntKind} {w : World} {a : Option Addr} {len cap : Nat} {zs : List Int} (h : IsRow k w a len cap zs) :
    Reads k w.heap.size w (.slice a len cap) (zs.take len) ∧ (zs.take len).length = len ∧ ∀ n ∈ zs.take len, (Lit.int k n).wf = true := by
  rcases h with ⟨rfl, rfl, rfl, rfl⟩ | ⟨x, rfl, hlc, hm, hz, hcell, hwz⟩
  · exact ⟨⟨none, 0, rfl, by simp, by omega, (fun _ => rfl), Or.inl rfl⟩, rfl, by simp⟩
  · have hl : (zs.take len).length = len := by rw [List.length_take]; omega
    refine ⟨⟨some x, cap, by rw [hl], by omega, by unfold maxLen at hm; omega, (fun h => by cases h), ?_⟩, hl, fun n hn => hwz n (List.mem_of_mem_take hn)⟩
    rw [hl]
    by_cases h0 : len = 0
    · exact Or.inl h0
    · obtain ⟨blk, off, spot⟩ := x
      have c0 := hcell 0 (by omega)
      have hspot : spot = none := by simpa [Addr.add] using World.cell?_spot c0
      subst hspot
      have hlt : blk < w.heap.size := by
        rcases Nat.lt_or_ge blk w.heap.size with h1 | h1
        · exact h1
        · have h2 : w.heap[blk]? = none := Array.getElem?_eq_none h1
          simp [World.cell?, Addr.add, h2] at c0
      refine Or.inr ⟨blk, off, rfl, hlt, fun j hj => ?_⟩
      have h3 := hcell j (by omega)
      have e : (⟨blk, off, none⟩ : Addr).add j = ⟨blk, off + j, none⟩ := by
        unfold Addr.add
        split
        · rename_i h4; subst h4; rfl
        · rfl
      rw [e] at h3
      rw [h3]
      have e2 : (zs.take len).getD j 0 = zs.getD j 0 := by simp [List.getD_eq_getElem?_getD, hj]
      rw [e2]
theorem bytes_of_wf {zs : List Int} (h : ∀ n ∈ zs, (Lit.int .u8 n).wf = true) : Bytes zs := fun n hn => u8_range (h n hn)
theorem ints_of_wf {zs : List Int} (h : ∀ n ∈ zs, (Lit.int .i64 n).wf = true) : Ints zs := fun n hn => int_range (h n hn)
end Go.Proofs.Ytpkicliimhflgaa

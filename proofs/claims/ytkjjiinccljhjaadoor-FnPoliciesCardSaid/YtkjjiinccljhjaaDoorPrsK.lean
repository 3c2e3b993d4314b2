/- Marks that a law writes into slices of strings, wherever they begin in their blocks; policies compared by what they read as. Helper facts, no claim of its own. -/
import Derived.Test.YtkjjiinccljhjaaDoorPrsI
import Derived.Test.YtkjjiinccljhjaaDoorLawPo
namespace Go.Proofs.YtkjjiinccljhjaaDoor
open Go.ChangeShapes Go.WideShapes Go.ChangeAt Go.RowKit

/-- The marks from k on. -/
def mks (k n : Nat) : List ByteArray := (List.range n).map fun j => mt (k + j)
theorem mks_len (k n : Nat) : (mks k n).length = n := by unfold mks; rw [List.length_map, List.length_range]
theorem mks_succ (k n : Nat) : mks k (n + 1) = mks k n ++ [mt (k + n)] := by unfold mks; rw [List.range_succ, List.map_append]; rfl
theorem mks_cons (k n : Nat) : mks k (n + 1) = mt k :: mks (k + 1) n := by
  unfold mks
  rw [List.range_succ_eq_map, List.map_cons, List.map_map]
  congr 1
  exact List.map_congr_left fun j _ => by show mt (k + (j + 1)) = mt (k + 1 + j); rw [show k + (j + 1) = k + 1 + j by omega]
theorem mks_put {xs : List ByteArray} {k j : Nat} (h : j < xs.length) : (mks k j ++ xs.drop j).set j (mt (k + j)) = mks k (j + 1) ++ xs.drop (j + 1) := by
  rw [List.drop_eq_getElem_cons h, List.set_append_right _ _ (by rw [mks_len]; exact Nat.le_refl _), mks_len, Nat.sub_self, List.set_cons_zero, mks_succ, List.append_assoc]; rfl
theorem mks_at {xs : List ByteArray} {k j : Nat} (h : j < xs.length) : (mks k j ++ xs.drop j)[j]? = some xs[j] := by
  rw [List.getElem?_append_right (by rw [mks_len]; exact Nat.le_refl _), mks_len, Nat.sub_self, List.getElem?_drop, Nat.add_zero, List.getElem?_eq_getElem h]
theorem markL_st : ∀ (xs : List ByteArray) (k : Nat), markL (stCells xs) k = stCells (mks k xs.length)
  | [], k => rfl
  | x :: xs, k => by
    have ih := markL_st xs (k + 1)
    show markL (.leaf (.string x) :: stCells xs) k = _
    rw [markL, mark_leaf, Rw.count, ih, List.length_cons, mks_cons]; rfl
theorem rwSs_mark (v : Value) (xs : List ByteArray) (k : Nat) : (rwSs v xs).mark k = rwSs v (mks k xs.length) := by
  rw [rwSs, rwSs, mark_cell_sl, markL_st, mks_len]
/-- One string is stored. -/
theorem OwnO.put {lo hi n c j : Nat} {w : World} {a : Option Addr} {xs : List ByteArray} {x : ByteArray} (h : OwnO lo hi w (.slice a n c) xs) (hj : xs[j]? = some x) (y : ByteArray) : ∃ g off, a = some ⟨g, off, none⟩ ∧ w.cell? ⟨g, off + j, none⟩ = some (.string x) ∧ w.frozen? ⟨g, off + j, none⟩ = false ∧ OwnO lo hi (w.setCell ⟨g, off + j, none⟩ (.string y)) (.slice a n c) (xs.set j y) ∧ OnlyB (blkO (.slice a n c) xs) w (w.setCell ⟨g, off + j, none⟩ (.string y)) := by
  have hjl := (List.getElem?_eq_some_iff.1 hj).1
  obtain ⟨a', c', e, h1, h2, h3, h4⟩ := h
  injection e with e1 e2 e3
  subst e1; subst e2; subst e3
  rcases h4 with h4 | ⟨g, off, cs, rfl, hl, hg, hh, hc⟩
  · omega
  · have hone := heap_one (o := off + j) hh (.string y)
    have hcj := hc j x hj
    refine ⟨g, off, rfl, box_cell hh hcj, box_frz hh _, ⟨_, _, by rw [List.length_set], by rw [List.length_set]; exact h1, h2, h3, Or.inr ⟨g, off, _, rfl, hl, hg, hone, fun i z hi => ?_⟩⟩, ?_⟩
    · have hlt : off + j < cs.size := (Array.getElem?_eq_some_iff.1 hcj).1
      rw [Array.getElem?_setIfInBounds]
      by_cases e : i = j
      · subst e
        rw [List.getElem?_set_self hjl] at hi
        cases hi
        rw [if_pos rfl, if_pos hlt]
      · rw [List.getElem?_set_ne (fun h => e h.symm)] at hi
        rw [if_neg (by omega)]
        exact hc i z hi
    · refine (OnlyB.refl _ _).set ?_
      unfold blkO
      rw [if_neg (by omega)]; simp [Value.ownBlock]

theorem own3O_blk {lo : Nat} {w : World} {v1 v2 v3 : Value} {xs ys zs : List ByteArray} (h : Own3O lo w v1 v2 v3 xs ys zs) : ∀ b ∈ blkO v1 xs ++ (blkO v2 ys ++ blkO v3 zs), lo ≤ b ∧ b < w.heap.size := by
  intro b hb
  rcases List.mem_append.1 hb with h1 | h1
  · have := h.1.blk b h1; exact ⟨this.1, this.2.1⟩
  · rcases List.mem_append.1 h1 with h1 | h1
    · have := h.2.1.blk b h1; exact ⟨this.1, this.2.1⟩
    · have := h.2.2.1.blk b h1; exact ⟨this.1, this.2.1⟩
theorem prsP_sm {s : ByteArray} (hs : s.size ≤ 1048576) : PolSm (prsP s).1 := by
  unfold prsP
  split
  · exact polZ_sm
  · split
    · exact rdI_sm hs
    · exact polZ_sm

end Go.Proofs.YtkjjiinccljhjaaDoor

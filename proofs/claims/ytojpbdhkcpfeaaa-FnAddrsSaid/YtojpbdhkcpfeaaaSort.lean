/- Helper contract: slices.SortFunc at addresses by CompareAddrs, over a row of the call's own: it holds the same elements, in order. The kit's contract on the library's text, at this program's numbers. -/
import Derived.Test.YtojpbdhkcpfeaaaCompact
import Derived.Test.YtojpbdhkcpfeaaaShelfG
import Derived.Sort.OwnSorted
namespace Go.Proofs.Ytojpbdhkcpfeaaa
open Go.ChangeShapes Go.WideShapes Go.ChangeAt Go.RowKit

theorem ltA (x y : Ad) : ltOf cmpA x y = decide (cmpA x y < 0) := rfl
theorem swoA : Sort.SWO (ltOf cmpA) where
  irrefl x := by rw [ltA, cmpA_self]; rfl
  trans x y z h1 h2 := by
    rw [ltA] at *
    exact decide_eq_true (cmpA_trans (of_decide_eq_true h1) (of_decide_eq_true h2))
  ntrans x y z h1 h2 := by
    rw [ltA] at *
    refine decide_eq_false fun h => ?_
    have h1 := of_decide_eq_false h1
    have h2 := of_decide_eq_false h2
    by_cases e1 : cmpA x y = 0
    · rw [cmpA_eq e1] at h; exact h2 h
    · have hyx : cmpA y x < 0 := by have := cmpA_neg x y; omega
      exact h2 (cmpA_trans hyx h)

theorem flatK_list (d : Array Ad) : (Sort.flatK encA 2 d).toList = d.toList.flatMap encA := by
  refine UptoK.full (enc := encA) (n := d.size) encA_len ?_ (by simp) (by simp)
  intro j x hj hx i hi
  have hlt : j * 2 + i < d.size * 2 := by omega
  have hjx : d[j]! = x := by
    rw [getElem!_pos d j hj]
    simpa [hj] using hx
  have h1 := Sort.get_flatK encA 2 d (j * 2 + i) hlt
  rw [show (j * 2 + i) / 2 = j by omega, show (j * 2 + i) % 2 = i by omega, hjx] at h1
  have h2 : (Sort.flatK encA 2 d)[j * 2 + i]! = (Sort.flatK encA 2 d).toList[j * 2 + i]?.getD default := by
    rw [getElem!_pos _ _ (by rw [Sort.size_flatK]; exact hlt), Array.getElem?_toList, Array.getElem?_eq_getElem (by rw [Sort.size_flatK]; exact hlt)]
    rfl
  have h3 : (Sort.flatK encA 2 d).toList[j * 2 + i]? = some (Sort.flatK encA 2 d)[j * 2 + i]! := by
    rw [getElem!_pos _ _ (by rw [Sort.size_flatK]; exact hlt), Array.getElem?_toList, Array.getElem?_eq_getElem (by rw [Sort.size_flatK]; exact hlt)]
  rw [h3, h1]
  rcases (show i = 0 ∨ i = 1 by omega) with rfl | rfl <;> rfl

/-- In order: no later one is before an earlier one. -/
def Asc (ys : List Ad) : Prop := ys.Pairwise fun x y => ¬ cmpA y x < 0
def SortOut (lo g cap : Nat) (xs : List Ad) (w : World) (e : Ending) (w' : World) : Prop :=
  e = .returned (.tuple #[]) ∧ ∃ ys : List Ad, ys.Perm xs ∧ Asc ys ∧ w'.ownsRow lo 25 2 (.slice (some ⟨g, 0, none⟩) xs.length cap) xs.length (ys.flatMap encA) ∧ w.grownBy w' (some g)

theorem sort_any (lo g cap : Nat) (xs : List Ad) (w : World) (h : w.ownsRow lo 25 2 (.slice (some ⟨g, 0, none⟩) xs.length cap) xs.length (xs.flatMap encA)) (hl : xs.length < 4611686018427387904) :
    Calls Try.prog 45 #[.slice (some ⟨g, 0, none⟩) xs.length cap, .func (.func 20) #[] #[]] w (SortOut lo g cap xs w) := by
  have eg : ∀ args w, (callFunc 20 args).run Try.prog w = .ok (.enter 20 args) w := enters_of Try.func20 (by kernel_rfl) rfl
  have hcmp : CmpLays Try.prog 20 #[] encA 2 cmpA g 0 xs.toArray.size w := fun _ _ _ _ x y => cmp_impl x.1 x.2 y.1 y.2 _
  obtain ⟨hlen, hrow⟩ := h
  rcases hrow with ⟨h', _⟩ | ⟨g', cap', cur, h', hb, hg, hnc, hcm, hcs, htake⟩
  · simp at h'
  · simp only [Value.slice.injEq, Option.some.injEq, Addr.mk.injEq, and_true, true_and] at h'
    obtain ⟨rfl, rfl⟩ := h'
    have hfl : (Sort.flatK encA 2 xs.toArray).toList = xs.flatMap encA := flatK_list xs.toArray
    have hH : Sort.HoldsK encA 2 w g 0 xs.toArray := by
      intro j hj
      rw [Sort.size_flatK] at hj
      have hj : j < xs.length * 2 := hj
      refine ⟨?_, by simp [World.frozen?, hg]⟩
      have h1 : (cur.toList.take (xs.length * 2))[j]? = (Sort.flatK encA 2 xs.toArray).toList[j]? := by rw [htake, hfl]
      rw [List.getElem?_take_of_lt hj] at h1
      have h2 : (Sort.flatK encA 2 xs.toArray).toList[j]? = some (Sort.flatK encA 2 xs.toArray)[j]! := by
        have hlt : j < (Sort.flatK encA 2 xs.toArray).size := by rw [Sort.size_flatK]; exact hj
        rw [getElem!_pos (Sort.flatK encA 2 xs.toArray) j hlt, Array.getElem?_toList, Array.getElem?_eq_getElem hlt]
      rw [Nat.zero_add, cell_of_row w g j cur 25 (0, 0) hg, ← Array.getElem?_toList, h1, h2]
      rfl
    have hgl : g < w.heap.size := (Array.getElem?_eq_some_iff.1 hg).1
    have hcon := AnyQ.slices_SortFunc Try.sortAd 2 Try.isAgg25 Try.sizeOf25 encA encA_len encA_one cmpA swoA 20 #[] g 0 cap xs.toArray w eg hcmp hH hgl hl
    change Calls Try.prog 45 _ _ _ at hcon
    refine hcon.mono ?_
    rintro e w' ⟨rfl, d', n, os, hp, hs, rfl⟩
    obtain ⟨hsz, _, hperm⟩ := hp
    have hds : d'.size = xs.length := hsz
    have e1 : d'.extract 0 xs.toArray.size = d' := by rw [← hsz]; exact Array.extract_size
    rw [e1, Array.extract_size] at hperm
    have hflat : (Sort.flatK encA 2 d').toList = d'.toList.flatMap encA := flatK_list d'
    have hflen : (d'.toList.flatMap encA).length = xs.length * 2 := by rw [flat_len encA_len, Array.length_toList, hds]
    have hheap : (sortWorldK encA 2 w g 0 n d' os).heap[g]? = some (.cells (Sort.putCells id 0 (Sort.flatK encA 2 d') cur) 25 (0, 0)) := by
      show (Sort.grow (Sort.putRow id (Sort.ahead w n) g 0 (Sort.flatK encA 2 d')) os).heap[g]? = _
      rw [Sort.heap_grow_old _ _ (by simpa using hgl)]
      simp [Sort.putRow, Sort.mapBlock, Sort.ahead, Array.getElem?_modify, hg, Sort.onCells]
    refine ⟨rfl, d'.toList, hperm, ?_, ⟨hflen, Or.inr ⟨g, cap, _, rfl, hb, hheap, hnc, hcm, by simp [Sort.putCells, hcs], ?_⟩⟩, ?_⟩
    · unfold Asc
      rw [List.pairwise_iff_getElem]
      intro i j hi hj hij
      have hi' : i < d'.size := by simpa using hi
      have hj' : j < d'.size := by simpa using hj
      have h1 := hs i j (Nat.zero_le _) hij (by rw [← hsz]; exact hj')
      rw [ltA, getElem!_pos d' i hi', getElem!_pos d' j hj'] at h1
      simpa using of_decide_eq_false h1
    · rw [← hflat]
      apply List.ext_getElem?
      intro j
      have hfs : (Sort.flatK encA 2 d').size = xs.length * 2 := by rw [Sort.size_flatK, hds]
      generalize Sort.flatK encA 2 d' = F at hfs ⊢
      by_cases hj : j < xs.length * 2
      · rw [List.getElem?_take_of_lt hj, Array.getElem?_toList]
        have hjf : j < F.size := by omega
        simp [Sort.putCells, hjf, show j < cur.size by omega]
      · rw [List.getElem?_take_eq_none (by omega), List.getElem?_eq_none (by rw [Array.length_toList]; omega)]
    · refine ⟨rfl, rfl, rfl, ?_, fun k hk hne => ?_⟩
      · show w.heap.size ≤ (Sort.grow (Sort.putRow id (Sort.ahead w n) g 0 (Sort.flatK encA 2 d')) os).heap.size
        simp
      · show (Sort.grow (Sort.putRow id (Sort.ahead w n) g 0 (Sort.flatK encA 2 d')) os).heap[k]? = _
        rw [Sort.heap_grow_old _ _ (by simpa using hk)]
        have : g ≠ k := fun e => hne (by rw [e])
        simp [Sort.putRow, Sort.mapBlock, Sort.ahead, Array.getElem?_modify, this]
end Go.Proofs.Ytojpbdhkcpfeaaa

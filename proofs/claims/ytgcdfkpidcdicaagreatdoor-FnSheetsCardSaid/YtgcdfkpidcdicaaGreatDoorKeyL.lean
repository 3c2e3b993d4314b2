/- The sorted keys of the map of colors: maps.Keys and slices.Sorted, by the kit's contracts. Helper facts, no claim of its own. -/
import Derived.Test.YtgcdfkpidcdicaaGreatDoorShelfG
import Derived.Test.YtgcdfkpidcdicaaGreatDoorJnP
import Derived.Test.YtgcdfkpidcdicaaGreatDoorSpl
namespace Go.Proofs.YtgcdfkpidcdicaaGreatDoor
open Go.ChangeShapes Go.WideShapes Go.ChangeAt Go.RowKit Go.Maps Go.Sort Go.Shelf

theorem sorts_in (m : Nat) : AnyZ.SortsIn Tryz.prog Tryz.sortedS_ren Fence.wide m :=
  ⟨fun blk off cap ss W hH hblk hsz => callsIn_wide.2 (AnyM.slices_Sort_string Tryz.sortS blk off cap ss W hH hblk hsz),
   fun p cap W => callsIn_wide.2 (AnyM.slices_Sort_string_none Tryz.sortS p cap W)⟩
theorem keys_any (mb : Option Nat) (W : World) :
    Calls Tryz.prog 77 #[.map mb] W fun e w' => e = .returned (.func (.func 127) #[] #[.pointer (some ⟨W.heap.size, 0, none⟩)]) ∧ w' = W.alloc (.cells #[.map mb] 112) :=
  (callsIn_wide (n := 5)).1 (AnyZ.keys_in Tryz.keysM Fence.wide 5 trivial rfl mb W)

set_option maxHeartbeats 1000000 in
theorem sorted_any (b : Nat) (rs : List Ru) (w : World) (h : IsCol w b rs) (hl : rs.length ≤ 1099511627776) :
    Calls Tryz.prog 76 #[.func (.func 127) #[] #[.pointer (some ⟨w.heap.size, 0, none⟩)]] (w.alloc (.cells #[.map (some b)] 112)) fun e w' => ∃ (v : Value) (N : List ByteArray), e = .returned v ∧ JN rs N ∧
      OwnK encS 1 9 (w.heap.size + 1) w'.heap.size w' v N ∧ Below (w.heap.size + 1) (w.alloc (.cells #[.map (some b)] 112)) w' := by
  have hown : w.ownsMap Tryz.prog 9 (plainElem Tryz.prog 3) b rs.length (colD rs) := h
  have hsz := colD_size rs
  have hmax : Maps.size (colD rs) ≤ maxLen := by unfold maxLen; omega
  have hbl := hown.lt
  have hseq : SeqGives Fence.wide 2 Tryz.prog 127 #[.pointer (some ⟨w.heap.size, 0, none⟩)] encStr (fun ss => ss.Perm (strKeys (colD rs))) (Maps.size (colD rs)) (w.alloc (.cells #[.map (some b)] 112)) :=
    AnyZ.keys_gives (ρ := Tryz.keysM_ren) { Tryz.keysM with } Fence.wide _ trivial rfl (by omega) w.heap.size b rs.length (colD rs) _ (by simp) (by simp) (by
      obtain ⟨es, clock, hb, Ft, hs, hD⟩ := hown
      exact ⟨es, clock, (Below.heap_alloc _ _ b hbl).trans hb, Ft, hs, hD⟩)
  refine ((callsIn_wide (n := 5)).1 (AnyZ.sorted_in Tryz.sortedS Fence.wide 5 trivial trivial trivial trivial rfl (by omega) (sorts_in _) (enters_of Tryz.func126 (by kernel_rfl) rfl) 127 #[.pointer (some ⟨w.heap.size, 0, none⟩)] trivial (enters_of Tryz.func127 (by kernel_rfl) rfl) _ _ hmax (by omega) _ hseq)).mono ?_
  rintro e w' ⟨v, ss, rfl, hp, hrow, _, hb⟩
  have hz : (w.alloc (.cells #[.map (some b)] 112)).heap.size = w.heap.size + 1 := by simp
  rw [hz] at hrow hb
  refine ⟨v, _, rfl, JN.keys h hp, ⟨?_, fun g hg => (hrow.lt g hg).2⟩, hb⟩
  rw [List.length_map, List.length_mergeSort]
  have he : ((ss.mergeSort leB).map ofL).flatMap encS = (ss.mergeSort leB).map encStr := by
    rw [List.flatMap_map]
    induction ss.mergeSort leB with
    | nil => rfl
    | cons x xs ih => rw [List.flatMap_cons, List.map_cons, ih]; rfl
  rw [he]; exact hrow
end Go.Proofs.YtgcdfkpidcdicaaGreatDoor

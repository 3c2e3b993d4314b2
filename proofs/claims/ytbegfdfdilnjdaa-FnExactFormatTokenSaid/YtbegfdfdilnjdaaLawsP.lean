/- The walks of the laws FnExactIsValue and FnExactFindAttr: they return true, and write nothing that was there. -/
import Derived.Test.YtbegfdfdilnjdaaRowT
import Derived.Test.YtbegfdfdilnjdaaLawT
import Derived.Shelf.SlSortCmp.QuietGrown
namespace Go.Proofs.Ytbegfdfdilnjdaa
open Go.ChangeShapes Go.WideShapes Go.ChangeAt Go.RowKit

set_option maxHeartbeats 1000000 in
theorem walkIsValue (s : ByteArray) (w : World) (hs : s.size ≤ 9223372036854775807) :
    Calls Try.prog 3 #[.string s] w fun e w' => e = .returned (.bool true) ∧ Below w.heap.size w w' := by
  by_cases big : (1048576 : Int) < (s.size : Int)
  · go_enter Try.func3, Try.ntmps3
    go_wp2_with fail
    go_ret
    exact ⟨rfl, Below.refl _ _⟩
  · go_enter Try.func3, Try.ntmps3
    go_wp2_with fail
    refine (val_spec s hs _).mono ?_
    rintro e w' ⟨rfl, rfl⟩
    go_wp2_with fail
    refine (val_impl s hs _).mono ?_
    rintro e w' ⟨rfl, rfl⟩
    go_wp2_with fail
    go_ret
    exact ⟨rfl, Below.refl _ _⟩

theorem atCells_weight : ∀ ats : List At, weightL (atCells ats) = (ats.map fun a => a.1.size + a.2.size).sum
  | [] => rfl
  | a :: ats => by rw [atCells, weightL, weightL, Rw.weight, Rw.weight, atCells_weight ats, List.map_cons, List.sum_cons]; simp only [weightV]; omega
theorem rwA_weight (v : Value) (ats : List At) : (rwA v ats).weight = ats.length + (ats.map fun a => a.1.size + a.2.size).sum := by rw [rwA, Rw.weight, atCells_weight]
theorem atCells_small {ats : List At} (h : ∀ a ∈ ats, AtOk a) : SmallL (atCells ats) := by
  induction ats with
  | nil => rw [atCells, SmallL]; trivial
  | cons a ats ih =>
    rw [atCells, SmallL, SmallL, Rw.Small, Rw.Small]
    exact ⟨(h a List.mem_cons_self).1, (h a List.mem_cons_self).2, ih fun b hb => h b (List.mem_cons_of_mem _ hb)⟩
theorem rwA_small {v : Value} {ats : List At} (h : ∀ a ∈ ats, AtOk a) : (rwA v ats).Small := by rw [rwA, Rw.Small]; exact atCells_small h
end Go.Proofs.Ytbegfdfdilnjdaa

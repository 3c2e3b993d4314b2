/- Helper contracts: NewBuilder of the program and of the model. -/
import Derived.Test.YtjiogmbiiojhgaaLawA
namespace Go.Proofs.Ytjiogmbiiojhgaa
open Go.ChangeShapes Go.WideShapes Go.ChangeAt Go.RowKit

/-- What NewBuilder answers, with the places of all that it made. -/
def NewForm (X : World) (e : Ending) (w' : World) : Prop :=
  ∃ na nn nc oa on oc ns, e = .returned (.agg #[.slice na nn nc, .slice oa on oc]) ∧ ns.map Prod.fst = bdNew.nodes ∧ BdM X.heap.size X w' (.slice na nn nc) (.slice oa on oc) ns bdNew.opn
theorem lit_row {w : World} {e : TypeId} {k B g : Nat} {cs : Array Value} (h : w.heap[g]? = some (.cells cs e (0, 0))) (hk : cs.size = k) (hB : B ≤ g) : w.ownsRow B e k (.slice (some ⟨g, 0, none⟩) 1 1) 1 cs.toList :=
  ⟨by rw [Nat.one_mul, Array.length_toList, hk], Or.inr ⟨g, 1, cs, rfl, hB, h, Nat.le_refl _, by decide, by rw [Nat.one_mul, hk], by rw [Nat.one_mul, ← hk, ← Array.length_toList, List.take_length]⟩⟩
abbrev nvNew : Nv := (⟨sPage, ⟨#[]⟩, -1, []⟩, svNil)
theorem new_made (w : World) : BdM w.heap.size w (((w.alloc (.cells #[.slice (some ⟨w.heap.size + 1, 0, none⟩) 1 1, .slice (some ⟨w.heap.size + 2, 0, none⟩) 1 1] 27)).alloc (.cells #[.string ⟨#[112, 97, 103, 101]⟩, .string ⟨#[]⟩, .int .i64 (-1), .slice none 0 0] 45)).alloc (.cells #[.int .i64 0] 3)) (.slice (some ⟨w.heap.size + 1, 0, none⟩) 1 1) (.slice (some ⟨w.heap.size + 2, 0, none⟩) 1 1) [nvNew] [0] := by
  have hB : Below w.heap.size w (((w.alloc (.cells #[.slice (some ⟨w.heap.size + 1, 0, none⟩) 1 1, .slice (some ⟨w.heap.size + 2, 0, none⟩) 1 1] 27)).alloc (.cells #[.string ⟨#[112, 97, 103, 101]⟩, .string ⟨#[]⟩, .int .i64 (-1), .slice none 0 0] 45)).alloc (.cells #[.int .i64 0] 3)) := (((Below.refl _ _).alloc (Nat.le_refl _) _).alloc (by rw [size_alloc]; omega) _).alloc (by rw [size_alloc, size_alloc]; omega) _
  have h1 := three_new1 w (.cells #[.slice (some ⟨w.heap.size + 1, 0, none⟩) 1 1, .slice (some ⟨w.heap.size + 2, 0, none⟩) 1 1] 27) (.cells #[.string ⟨#[112, 97, 103, 101]⟩, .string ⟨#[]⟩, .int .i64 (-1), .slice none 0 0] 45) (.cells #[.int .i64 0] 3)
  have h2 := three_new2 w (.cells #[.slice (some ⟨w.heap.size + 1, 0, none⟩) 1 1, .slice (some ⟨w.heap.size + 2, 0, none⟩) 1 1] 27) (.cells #[.string ⟨#[112, 97, 103, 101]⟩, .string ⟨#[]⟩, .int .i64 (-1), .slice none 0 0] 45) (.cells #[.int .i64 0] 3)
  refine ⟨⟨⟨?_, hB, hB.size⟩, fun p hp => ?_, by simp [insN, nvNew, sv, svNil, Value.ownBlock]⟩, ⟨?_, hB, hB.size⟩⟩
  · exact lit_row (k := 4) h1 rfl (by omega)
  · rw [List.mem_singleton] at hp; subst hp; exact ownK_nil _ _ _ _ _ _
  · exact lit_row (k := 1) h2 rfl (by omega)

set_option maxHeartbeats 1000000 in
theorem new_spec (w : World) : Calls Try.prog 31 #[] w (NewForm w) := by
  have HO := Lib.hid (new_made w)
  go_enter Try.func31, Try.ntmps31
  go_wp2_with fail
  refine bodyPost_ret (v := .agg #[.slice (some ⟨w.heap.size + 1, 0, none⟩) 1 1, .slice (some ⟨w.heap.size + 2, 0, none⟩) 1 1]) (by simp [results, Try.results31, go_sem]) rfl ?_
  exact ⟨_, _, _, _, _, _, [nvNew], rfl, rfl, HO.out⟩

set_option maxHeartbeats 1000000 in
theorem new_impl (w : World) : Calls Try.prog 32 #[] w (NewForm w) := by
  have HO := Lib.hid (new_made w)
  go_enter Try.func32, Try.ntmps32
  go_wp2_with fail
  refine bodyPost_ret (v := .agg #[.slice (some ⟨w.heap.size + 1, 0, none⟩) 1 1, .slice (some ⟨w.heap.size + 2, 0, none⟩) 1 1]) (by simp [results, Try.results32, go_sem]) rfl ?_
  exact ⟨_, _, _, _, _, _, [nvNew], rfl, rfl, HO.out⟩
end Go.Proofs.Ytjiogmbiiojhgaa

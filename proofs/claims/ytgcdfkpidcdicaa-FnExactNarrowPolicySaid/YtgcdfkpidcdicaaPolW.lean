/- Helper contracts: the words of a policy's form; FormatPolicy of the model and of the program. Asked: the policy's slices read as named, its strings are not too long. -/
import Derived.Test.YtgcdfkpidcdicaaPolB
import Derived.Test.YtgcdfkpidcdicaaShelfJ
import Derived.Test.YtgcdfkpidcdicaaBl
import Derived.Lib.Join
import Derived.Deep.RegionHeld3
import Derived.Laws.Concat
namespace Go.Proofs.Ytgcdfkpidcdicaa
open Go.ChangeShapes Go.WideShapes Go.ChangeAt Go.RowKit

theorem sumSt_take (xs : List ByteArray) (k : Nat) : sumSt (xs.take k) ≤ sumSt xs := by
  have : sumSt xs = sumSt (xs.take k) + sumSt (xs.drop k) := by
    conv => lhs; rw [← List.take_append_drop k xs]
    unfold sumSt; rw [List.map_append, List.sum_append]
  omega
theorem takeS {xs : List ByteArray} {k : Nat} {x : ByteArray} (h : xs[k]? = some x) : xs.take (k + 1) = xs.take k ++ [x] := by
  rw [List.take_add_one, h]; rfl
theorem spS_size : spS.size = 1 := rfl
theorem scS_size : scS.size = 1 := rfl

theorem mineS_lit {w0 w : World} {B : Nat} (x : ByteArray) (hb : Below B w0 w) (hB : B ≤ w.heap.size) : MineK encS 1 9 B w0 (w.alloc (.cells #[.string x] 9)) (.slice (some ⟨w.heap.size, 0, none⟩) 1 1) [x] :=
  ⟨World.ownsRow_lit (base := B) (e := 9) (size := 1) w #[.string x] 1 hB (by decide) rfl, hb.alloc hB _, by simp; omega⟩
theorem own_strs9 {lo hi g n c : Nat} {w : World} {xs : List ByteArray} (h : OwnK encS 1 9 lo hi w (.slice (some ⟨g, 0, none⟩) n c) xs) (hn : xs.length = n) : g < w.heap.size ∧ n ≤ c ∧ ∀ (j : Nat) x, xs[j]? = some x → w.cell? ⟨g, 0 + j, none⟩ = some (.string x) := by
  have hr := h.reads encS_len
  rcases h.1.2 with ⟨e, _⟩ | ⟨g', cap, cur, e, hg, hh, hc, hm, _⟩
  · cases e
  · cases e
    refine ⟨heap_lt hh, by omega, fun j x hj => ?_⟩
    have := hr.news encS_len j (.string x) (by
      have := flat_at encS_len hj (show 0 < 1 by decide)
      simpa [encS] using this)
    rwa [add_off] at this
theorem mineS_some9 {B : Nat} {w0 w : World} {v : Value} {xs : List ByteArray} (h : MineK encS 1 9 B w0 w v xs) (h1 : 1 ≤ xs.length) : ∃ g c, v = .slice (some ⟨g, 0, none⟩) xs.length c := by
  rcases h.row.2 with ⟨e, h0⟩ | ⟨g, cap, cur, e, _⟩
  · omega
  · exact ⟨g, cap, e⟩
theorem join_words (u : ByteArray) (xs : List ByteArray) : Lib.join ((u :: xs).map (·.data.toList)) [32] = (wordsS u xs).data.toList := by
  rw [wordsS_list, List.map_cons, Lib.join_cons]
  congr 1
  unfold Lib.joinTail hostsL
  rw [List.map_map, List.flatMap_def]
  rfl

end Go.Proofs.Ytgcdfkpidcdicaa

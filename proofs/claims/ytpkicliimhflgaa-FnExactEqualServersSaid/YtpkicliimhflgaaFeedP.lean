/- Helper facts for the walks over the pieces of a page: a slice of tokens of the call's own over the changes of memory, what is answered, in plain words; the pieces that the program takes. No claim of its own. -/
import Derived.Test.YtpkicliimhflgaaTagP
namespace Go.Proofs.Ytpkicliimhflgaa
open Go.ChangeShapes Go.WideShapes Go.ChangeAt Go.RowKit

theorem heap_one1 {w : World} {b : Nat} {x u : Value} {T : TypeId} (h : w.heap[b]? = some (.cells #[x] T (0, 0))) : (w.setCell ⟨b, 0, none⟩ u).heap[b]? = some (.cells #[u] T (0, 0)) := by
  rw [heap_one (o := 0) h u]; rfl
theorem cells_one {w : World} {b : Nat} {x : Value} {T : TypeId} (h : w.heap[b]? = some (.cells #[x] T (0, 0))) : w.cell? ⟨b, 0, none⟩ = some x ∧ w.frozen? ⟨b, 0, none⟩ = false := by
  refine ⟨?_, ?_⟩
  · unfold World.cell?; rw [h]; rfl
  · unfold World.frozen?; rw [h]; rfl

/-- One token more. -/
theorem toks_more {x y z : List UInt8} {ts : List Tv} {p : Tv} (h : feedB x = (ts.map Prod.fst ++ (feedB y).1, (feedB y).2)) (hy : feedB y = (p.1 :: (feedB z).1, (feedB z).2)) : feedB x = ((ts ++ [p]).map Prod.fst ++ (feedB z).1, (feedB z).2) := by
  rw [h, hy]; simp
theorem toks_none {x y z : List UInt8} {ts : List Tv} (h : feedB x = (ts.map Prod.fst ++ (feedB y).1, (feedB y).2)) (hy : feedB y = ((feedB z).1, (feedB z).2)) : feedB x = (ts.map Prod.fst ++ (feedB z).1, (feedB z).2) := by
  rw [h, hy]
theorem toks_end {x y : List UInt8} {ts : List Tv} (h : feedB x = (ts.map Prod.fst ++ (feedB y).1, (feedB y).2)) (hy : feedB y = ([], y)) : ts.map Prod.fst = (feedB x).1 ∧ y = (feedB x).2 := by
  rw [h, hy]; simp
theorem tag_inside (y : List UInt8) (e : Nat) : (ofL y).extract 1 e = ofL ((y.take e).drop 1) := by
  rw [extract_eq, ofL_list]
  congr 1
  rw [List.drop_take]
theorem endB_nil : endB [] = [] := by simp [endB]
theorem endB_tag {r : List UInt8} (h : r[0]? = some 60) : endB r = [] := by unfold endB; rw [if_pos (Or.inr h)]
theorem endB_text {r : List UInt8} (h : r ≠ []) (h2 : r[0]? ≠ some 60) : endB r = [tokText (ofL r)] := by unfold endB; rw [if_neg (by rintro (h3 | h3); exact h h3; exact h2 h3)]
theorem idx_tag {y : List UInt8} (h0 : idxB 60 y = 0) (h1 : idxB 62 y < y.length) : 1 ≤ idxB 62 y := by
  cases y with
  | nil => exact absurd h1 (Nat.not_lt_zero _)
  | cons b l =>
    have hb : b = 60 := by
      have := idxB_at (c := 60) (l := b :: l) (by rw [h0]; simp)
      rw [h0] at this
      simpa using this
    subst hb
    rw [idxB, if_neg (by decide)]; omega
end Go.Proofs.Ytpkicliimhflgaa

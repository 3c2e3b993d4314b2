/- Helper contracts: EqualBuilders of the program and of the model answer alike: whether the builders are equal. Asked: they lie in memory as named. -/
import Derived.Test.YtpkicliimhflgaaCnt
import Derived.Test.YtpkicliimhflgaaTagP
import Derived.Shelf.SlSortCmp.QuietGrown
namespace Go.Proofs.Ytpkicliimhflgaa
open Go.ChangeShapes Go.WideShapes Go.ChangeAt Go.RowKit

theorem eq_pre {xs ys : List Int} (hl : xs.length = ys.length) (h : ∀ j, j < xs.length → xs.getD j 0 = ys.getD j 0) : xs = ys := by
  apply List.ext_getElem?
  intro j
  by_cases hj : j < xs.length
  · rw [getD_at hj, getD_at (by omega), h j hj]
  · rw [List.getElem?_eq_none (by omega), List.getElem?_eq_none (by omega)]
def Pre (xs ys : List Int) (k : Nat) : Prop := ∀ j, j < k → xs.getD j 0 = ys.getD j 0
theorem Pre.step {xs ys : List Int} {k : Nat} (h : Pre xs ys k) (e : xs.getD k 0 = ys.getD k 0) : Pre xs ys (k + 1) := by
  intro j hj
  by_cases hjk : j = k
  · subst hjk; exact e
  · exact h j (by omega)
/-- The first k elements are equal. -/
def PreL {α : Type} (xs ys : List α) (k : Nat) : Prop := ∀ j, j < k → xs[j]? = ys[j]?
theorem PreL.zero {α : Type} (xs ys : List α) : PreL xs ys 0 := fun _ h => absurd h (Nat.not_lt_zero _)
theorem PreL.step {α : Type} {xs ys : List α} {k : Nat} (h : PreL xs ys k) (e : xs[k]? = ys[k]?) : PreL xs ys (k + 1) := by
  intro j hj
  by_cases hjk : j = k
  · subst hjk; exact e
  · exact h j (by omega)
theorem PreL.full {α : Type} {xs ys : List α} {k : Nat} (h : PreL xs ys k) (hx : xs.length = k) (hy : ys.length = k) : xs = ys := by
  apply List.ext_getElem?
  intro j
  by_cases hj : j < k
  · exact h j hj
  · rw [List.getElem?_eq_none (by omega), List.getElem?_eq_none (by omega)]
theorem ret_d {p : Prop} [Decidable p] {b : Bool} (h : b = decide p) : Ending.returned (.bool b) = .returned (.bool (decide p)) := by rw [h]

theorem nd_ne {x y : Nd} (h : x.name ≠ y.name ∨ x.text ≠ y.text ∨ x.parent ≠ y.parent ∨ x.attrs ≠ y.attrs) : x ≠ y := by
  rintro rfl
  rcases h with h | h | h | h <;> exact h rfl
theorem nd_eq {x y : Nd} (h1 : x.name = y.name) (h2 : x.text = y.text) (h3 : x.parent = y.parent) : decide (x = y) = decide (x.attrs = y.attrs) := by
  cases x; cases y
  simp only at h1 h2 h3
  subst h1; subst h2; subst h3
  exact decide_eq_decide.2 ⟨fun h => congrArg Nd.attrs h, fun h => by cases h; rfl⟩
end Go.Proofs.Ytpkicliimhflgaa

/- Cells read in a row: what an argument's memory holds. Helper facts, no claim of its own. -/
import Derived.Test.YtpkicliimhflgaaRec
import Derived.Lib.SmallJoins
import Derived.Deep.Slices
import Derived.ShutString
import Derived.ChangeOld
import Derived.Carry
namespace Go.Proofs.Ytpkicliimhflgaa
open Go.ChangeShapes Go.WideShapes Go.ChangeAt Go.RowKit Go.Joins Go.Deep

theorem add_lit (g off j : Nat) : (⟨g, off, none⟩ : Addr).add j = ⟨g, off + j, none⟩ := by
  unfold Addr.add
  split
  · rename_i h4; subst h4; rfl
  · rfl
theorem mapM_at {f : Nat → Option Value} : ∀ {l : List Nat} {cs : List Value}, l.mapM f = some cs → cs.length = l.length ∧ ∀ i j : Nat, l[i]? = some j → f j = cs[i]?
  | [], cs, h => by
    have : cs = [] := by simpa using h.symm
    subst this
    exact ⟨rfl, fun i j h => by simp at h⟩
  | a :: l, cs, h => by
    rw [List.mapM_cons] at h
    obtain ⟨v, hv, h⟩ := Option.bind_eq_some_iff.1 h
    obtain ⟨vs, hvs, h⟩ := Option.bind_eq_some_iff.1 h
    have : cs = v :: vs := by simpa using h.symm
    subst this
    obtain ⟨k1, k2⟩ := mapM_at hvs
    refine ⟨by simp [k1], fun i j hj => ?_⟩
    cases i with
    | zero =>
      have : a = j := by simpa using hj
      subst this
      simpa using hv
    | succ i => simpa using k2 i j (by simpa using hj)
theorem cells?_at {w : World} {base n : Nat} {a : Addr} {cs : List Value} (h : w.cells? base a n = some cs) : cs.length = n ∧ ∀ i, i < n → w.cell? (a.add i) = cs[i]? := by
  unfold World.cells? at h
  split at h
  · obtain ⟨k1, k2⟩ := mapM_at h
    rw [List.length_range] at k1
    exact ⟨k1, fun i hi => k2 i i (by rw [List.getElem?_range hi])⟩
  · cases h

end Go.Proofs.Ytpkicliimhflgaa

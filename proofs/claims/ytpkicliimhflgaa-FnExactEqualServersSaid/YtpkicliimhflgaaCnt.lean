/- Helper contracts: CountName and TextOf of the program and of the model. Asked: the builder lies in memory as named. -/
import Derived.Test.YtpkicliimhflgaaTr
namespace Go.Proofs.Ytpkicliimhflgaa
open Go.ChangeShapes Go.WideShapes Go.ChangeAt Go.RowKit

theorem count_more {ns : List Nd} {s : ByteArray} {k : Nat} {x : Nd} (h : ns[k]? = some x) : countName (ns.take (k + 1)) s = countName (ns.take k) s + (if (x.name.toList == s.toList) = true then 1 else 0) := by
  induction ns generalizing k with
  | nil => simp at h
  | cons y ns ih =>
    cases k with
    | zero =>
      have : y = x := by simpa using h
      subst this
      simp [countName]
    | succ k =>
      rw [List.take_succ_cons, List.take_succ_cons, countName, countName, ih (by simpa using h)]; omega
theorem count_le : ∀ (ns : List Nd) (s : ByteArray), countName ns s ≤ ns.length
  | [], s => Nat.le_refl _
  | x :: ns, s => by
    have := count_le ns s
    rw [countName, List.length_cons]; split <;> omega
theorem map_fst_at {ns : List Nv} {l : List Nd} (h : ns.map Prod.fst = l) {k : Nat} {p : Nv} (hp : ns[k]? = some p) : l[k]? = some p.1 := by
  subst h; rw [List.getElem?_map, hp]; rfl

end Go.Proofs.Ytpkicliimhflgaa

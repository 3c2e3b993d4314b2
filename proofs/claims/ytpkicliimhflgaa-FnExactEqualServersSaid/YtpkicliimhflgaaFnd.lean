/- Helper contracts: FindAttr of the program and of the model answer alike. Asked: the slice reads as the list named. -/
import Derived.Test.YtpkicliimhflgaaTk
namespace Go.Proofs.Ytpkicliimhflgaa
open Go.ChangeShapes Go.WideShapes Go.ChangeAt Go.RowKit

def findV (ats : List At) (n : ByteArray) : Value := match findA ats n with
  | none => .tuple #[.string ⟨#[]⟩, .bool false]
  | some v => .tuple #[.string v, .bool true]
theorem findV_none {ats : List At} {n : ByteArray} (h : findA ats n = none) : findV ats n = .tuple #[.string ⟨#[]⟩, .bool false] := by unfold findV; rw [h]
theorem findV_some {ats : List At} {n v : ByteArray} (h : findA ats n = some v) : findV ats n = .tuple #[.string v, .bool true] := by unfold findV; rw [h]
/-- The first k attributes have other names. -/
def fndTo (ats : List At) (n : ByteArray) (k : Nat) : Prop := findA ats n = findA (ats.drop k) n
theorem fndTo.zero (ats : List At) (n : ByteArray) : fndTo ats n 0 := by unfold fndTo; rw [List.drop_zero]
theorem drop_at {ats : List At} {k : Nat} {a : At} (h : ats[k]? = some a) : ats.drop k = a :: ats.drop (k + 1) := by
  have hk := (List.getElem?_eq_some_iff.1 h).1
  rw [List.drop_eq_getElem_cons hk, show ats[k] = a from Option.some.inj ((List.getElem?_eq_getElem hk).symm.trans h)]
theorem fndTo.hit {ats : List At} {n : ByteArray} {k : Nat} {a : At} (h : fndTo ats n k) (ha : ats[k]? = some a) (e : a.1 = n) : findV ats n = .tuple #[.string a.2, .bool true] := by
  unfold fndTo at h
  rw [drop_at ha, findA, if_pos e] at h
  exact findV_some h
theorem fndTo.succ {ats : List At} {n : ByteArray} {k : Nat} {a : At} (h : fndTo ats n k) (ha : ats[k]? = some a) (e : a.1 ≠ n) : fndTo ats n (k + 1) := by
  unfold fndTo at h ⊢
  rw [drop_at ha, findA, if_neg e] at h
  exact h
theorem fndTo.miss {ats : List At} {n : ByteArray} {k : Nat} (h : fndTo ats n k) (hk : ats.length ≤ k) : findV ats n = .tuple #[.string ⟨#[]⟩, .bool false] := by
  unfold fndTo at h
  rw [List.drop_of_length_le hk, findA] at h
  exact findV_none h

end Go.Proofs.Ytpkicliimhflgaa

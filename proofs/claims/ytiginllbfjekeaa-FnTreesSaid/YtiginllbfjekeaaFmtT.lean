/- Helper contracts: FormatToken of the program and of the model answer alike. Asked: the attributes read as the list named, and the token's strings are shorter than 2^30 bytes together. -/
import Derived.Test.YtiginllbfjekeaaShelfJ
import Derived.Test.YtiginllbfjekeaaTagP
import Derived.Lib.Join
namespace Go.Proofs.Ytiginllbfjekeaa
open Go.ChangeShapes Go.WideShapes Go.ChangeAt Go.RowKit

theorem fmtAs_one (a : At) : fmtAs [a] = 32 :: a.1.data.toList ++ 61 :: a.2.data.toList := by
  show 32 :: _ ++ _ ++ fmtAs [] = _
  simp [fmtAs]
theorem fmtAs_take {xs : List At} {j : Nat} {a : At} (h : xs[j]? = some a) : fmtAs (xs.take (j + 1)) = fmtAs (xs.take j) ++ (32 :: a.1.data.toList ++ 61 :: a.2.data.toList) := by
  rw [List.take_add_one, h, Option.toList_some, fmtAs_append, fmtAs_one]
theorem fmtAs_len : ∀ xs : List At, (fmtAs xs).length = 2 * xs.length + (xs.map fun a => a.1.size + a.2.size).sum
  | [] => rfl
  | a :: xs => by
    show (32 :: _ ++ _ ++ fmtAs xs).length = _
    rw [List.length_append, List.length_append, List.length_cons, List.length_cons, fmtAs_len xs, List.map_cons, List.sum_cons, List.length_cons, size_list, size_list]; omega
theorem fmtAs_le {xs : List At} (j : Nat) : (fmtAs (xs.take j)).length ≤ (fmtAs xs).length := by
  conv => rhs; rw [← List.take_append_drop j xs, fmtAs_append, List.length_append]
  omega
theorem fmtAs_at {xs : List At} {j : Nat} {a : At} (h : xs[j]? = some a) : a.1.size + a.2.size ≤ (fmtAs xs).length := by
  have h1 := fmtAs_le (xs := xs) (j + 1)
  rw [fmtAs_take h] at h1
  simp only [List.length_append, List.length_cons, size_list] at h1
  omega
/-- The form up to the first j attributes. -/
def fmtTo (n : ByteArray) (xs : List At) (j : Nat) : ByteArray := ofL (60 :: (n.data.toList ++ fmtAs (xs.take j)))
theorem fmtTo_zero (n : ByteArray) (xs : List At) : (⟨#[60]⟩ : ByteArray) ++ n = fmtTo n xs 0 := bytesEq (by rw [append_list, fmtTo, ofL_list, List.take_zero]; simp [fmtAs])
theorem fmtTo_succ {n : ByteArray} {xs : List At} {j : Nat} {a : At} (h : xs[j]? = some a) : fmtTo n xs j ++ ⟨#[32]⟩ ++ a.1 ++ ⟨#[61]⟩ ++ a.2 = fmtTo n xs (j + 1) := bytesEq (by
  rw [append_list, append_list, append_list, append_list, fmtTo, fmtTo, ofL_list, ofL_list, fmtAs_take h]
  simp)
theorem fmtTo_size {n : ByteArray} {xs : List At} (j : Nat) (h : n.size + (fmtAs xs).length ≤ 1073741824) : (fmtTo n xs j).size ≤ 1073741825 := by
  rw [fmtTo, ofL_size, List.length_cons, List.length_append, size_list]
  have := fmtAs_le (xs := xs) j
  omega
theorem fmtT_open (n : ByteArray) (xs : List At) (t : ByteArray) {j : Nat} (h : xs.length ≤ j) : fmtTo n xs j ++ ⟨#[62]⟩ = ofL (fmtT ⟨1, n, xs, t⟩) := bytesEq (by
  rw [append_list, fmtTo, ofL_list, ofL_list, List.take_of_length_le h]
  simp [fmtT])
theorem fmtT_close (n : ByteArray) (xs : List At) (t : ByteArray) : (⟨#[60, 47]⟩ : ByteArray) ++ n ++ ⟨#[62]⟩ = ofL (fmtT ⟨2, n, xs, t⟩) := bytesEq (by
  rw [append_list, append_list, ofL_list]
  simp [fmtT])
theorem fmtT_text (n : ByteArray) (xs : List At) (t : ByteArray) : t = ofL (fmtT ⟨3, n, xs, t⟩) := by
  rw [show fmtT ⟨3, n, xs, t⟩ = t.data.toList from rfl, ofL_of]
theorem fmtT_none {k : Int} (n : ByteArray) (xs : List At) (t : ByteArray) (h1 : k ≠ 1) (h2 : k ≠ 2) (h3 : k ≠ 3) : (⟨#[]⟩ : ByteArray) = ofL (fmtT ⟨k, n, xs, t⟩) := by
  unfold fmtT
  rw [if_neg h1, if_neg h2, if_neg h3]; rfl
end Go.Proofs.Ytiginllbfjekeaa

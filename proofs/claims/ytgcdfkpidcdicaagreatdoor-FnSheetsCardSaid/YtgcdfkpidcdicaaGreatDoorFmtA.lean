/- 2 texts in one. -/
import Derived.Test.YtgcdfkpidcdicaaGreatDoorShelfJ
import Derived.Test.YtgcdfkpidcdicaaGreatDoorTagP
import Derived.Lib.Join
import Derived.Test.YtgcdfkpidcdicaaGreatDoorSpl
namespace Go.Proofs.YtgcdfkpidcdicaaGreatDoor
/- FmtT -/
open Go.ChangeShapes Go.WideShapes Go.ChangeAt Go.RowKit

theorem fmtAs_one (a : At) : fmtAs [a] = 32 :: a.1.data.toList ++ 61 :: a.2.data.toList := by
  show 32 :: _ ++ _ ++ fmtAs [] = _
  simp [fmtAs]
theorem fmtAs_take {xs : List At} {j : Nat} {a : At} (h : xs[j]? = some a) : fmtAs (xs.take (j + 1)) = fmtAs (xs.take j) ++ (32 :: a.1.data.toList ++ 61 :: a.2.data.toList) := by
  rw [List.take_add_one, h, Option.toList_some, fmtAs_append, fmtAs_one]
theorem fmtAs_len : ∀ xs : List At, (fmtAs xs).length = 2 * xs.length + (xs.map fun a => a.1.size + a.2.size).sum
  | [] => rfl
  | a :: xs => by
    show (32 :: _ ++ _ ++ fmtAs xs).length = _
    rw [List.length_append, List.length_append, List.length_cons, List.length_cons, fmtAs_len xs, List.map_cons, List.sum_cons, List.length_cons, size_list, size_list]; omega
theorem fmtAs_le {xs : List At} (j : Nat) : (fmtAs (xs.take j)).length ≤ (fmtAs xs).length := by
  conv => rhs; rw [← List.take_append_drop j xs, fmtAs_append, List.length_append]
  omega
theorem fmtAs_at {xs : List At} {j : Nat} {a : At} (h : xs[j]? = some a) : a.1.size + a.2.size ≤ (fmtAs xs).length := by
  have h1 := fmtAs_le (xs := xs) (j + 1)
  rw [fmtAs_take h] at h1
  simp only [List.length_append, List.length_cons, size_list] at h1
  omega
/-- The form up to the first j attributes. -/
def fmtTo (n : ByteArray) (xs : List At) (j : Nat) : ByteArray := ofL (60 :: (n.data.toList ++ fmtAs (xs.take j)))
theorem fmtTo_zero (n : ByteArray) (xs : List At) : (⟨#[60]⟩ : ByteArray) ++ n = fmtTo n xs 0 := bytesEq (by rw [append_list, fmtTo, ofL_list, List.take_zero]; simp [fmtAs])
theorem fmtTo_succ {n : ByteArray} {xs : List At} {j : Nat} {a : At} (h : xs[j]? = some a) : fmtTo n xs j ++ ⟨#[32]⟩ ++ a.1 ++ ⟨#[61]⟩ ++ a.2 = fmtTo n xs (j + 1) := bytesEq (by
  rw [append_list, append_list, append_list, append_list, fmtTo, fmtTo, ofL_list, ofL_list, fmtAs_take h]
  simp)
theorem fmtTo_size {n : ByteArray} {xs : List At} (j : Nat) (h : n.size + (fmtAs xs).length ≤ 1073741824) : (fmtTo n xs j).size ≤ 1073741825 := by
  rw [fmtTo, ofL_size, List.length_cons, List.length_append, size_list]
  have := fmtAs_le (xs := xs) j
  omega
theorem fmtT_open (n : ByteArray) (xs : List At) (t : ByteArray) {j : Nat} (h : xs.length ≤ j) : fmtTo n xs j ++ ⟨#[62]⟩ = ofL (fmtT ⟨1, n, xs, t⟩) := bytesEq (by
  rw [append_list, fmtTo, ofL_list, ofL_list, List.take_of_length_le h]
  simp [fmtT])
theorem fmtT_close (n : ByteArray) (xs : List At) (t : ByteArray) : (⟨#[60, 47]⟩ : ByteArray) ++ n ++ ⟨#[62]⟩ = ofL (fmtT ⟨2, n, xs, t⟩) := bytesEq (by
  rw [append_list, append_list, ofL_list]
  simp [fmtT])
theorem fmtT_text (n : ByteArray) (xs : List At) (t : ByteArray) : t = ofL (fmtT ⟨3, n, xs, t⟩) := by
  rw [show fmtT ⟨3, n, xs, t⟩ = t.data.toList from rfl, ofL_of]
theorem fmtT_none {k : Int} (n : ByteArray) (xs : List At) (t : ByteArray) (h1 : k ≠ 1) (h2 : k ≠ 2) (h3 : k ≠ 3) : (⟨#[]⟩ : ByteArray) = ofL (fmtT ⟨k, n, xs, t⟩) := by
  unfold fmtT
  rw [if_neg h1, if_neg h2, if_neg h3]; rfl

/- FmtI -/
open Go.ChangeShapes Go.WideShapes Go.ChangeAt Go.RowKit

/-- The words of a tag. -/
def attrW (a : At) : ByteArray := a.1 ++ ⟨#[61]⟩ ++ a.2
theorem join_words (n : ByteArray) (xs : List At) : Lib.join ((n :: xs.map attrW).map (·.data.toList)) [32] = n.data.toList ++ fmtAs xs := by
  rw [List.map_cons, Lib.join_cons]
  congr 1
  unfold Lib.joinTail
  induction xs with
  | nil => rfl
  | cons a xs ih =>
    rw [List.map_cons, List.map_cons, List.map_cons, List.flatten_cons, ih]
    show _ = 32 :: _ ++ _ ++ fmtAs xs
    rw [attrW, append_list, append_list]
    simp
theorem words_more {n : ByteArray} {xs : List At} {j : Nat} {a : At} (h : xs[j]? = some a) : n :: ((xs.map attrW).take j ++ [a.1 ++ ⟨#[61]⟩ ++ a.2]) = n :: (xs.map attrW).take (j + 1) := by
  rw [List.take_add_one, List.getElem?_map, h]; rfl
theorem fmt_joined (n : ByteArray) (xs : List At) (t : ByteArray) : (⟨#[60]⟩ : ByteArray) ++ ⟨(n.data.toList ++ fmtAs xs).toArray⟩ ++ ⟨#[62]⟩ = ofL (fmtT ⟨1, n, xs, t⟩) := bytesEq (by
  rw [append_list, append_list, ofL_list]
  simp [fmtT])

theorem readsS_at (w : World) (H : Nat) (hH : w.heap.size = H) (s : ByteArray) : ReadsK encS 1 (H + 1) (w.alloc (.cells #[.string s] 9)) (.slice (some ⟨H, 0, none⟩) 1 1) [s] := by
  subst hH; exact readsS_one w s
end Go.Proofs.YtgcdfkpidcdicaaGreatDoor

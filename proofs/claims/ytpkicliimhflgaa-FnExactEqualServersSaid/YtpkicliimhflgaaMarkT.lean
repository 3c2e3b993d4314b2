/- Helper contract over markText, the text that the laws write as a mark. Asked: the number is below 2^62. -/
import Derived.Test.YtpkicliimhflgaaRec
import Derived.Lib.Strings
import Derived.Lib.Walk
import Derived.Lib.ItoaNum
import Derived.Laws.IdiomStrings
namespace Go.Proofs.Ytpkicliimhflgaa
open Go.ChangeShapes Go.WideShapes Go.ChangeAt Go.RowKit

def dig (u : Nat) : UInt8 := UInt8.ofNat (48 + u % 10)
def dd (u : Nat) : List UInt8 := if u = 0 then [] else Lib.decDigits u
theorem dd_zero : dd 0 = [] := rfl
theorem dd_pos {u : Nat} (h : u ≠ 0) : dd u = Lib.decDigits u := by unfold dd; rw [if_neg h]
theorem dd_step {u : Nat} (h : u ≠ 0) : dd u = dd (u / 10) ++ [dig u] := by
  rw [dd_pos h, Lib.decDigits]
  by_cases h1 : u < 10
  · rw [dif_pos h1, show u / 10 = 0 by omega, dd_zero]; unfold dig; rw [show u % 10 = u by omega]; rfl
  · rw [dif_neg h1, dd_pos (by omega)]; rfl
theorem dec_len (u : Nat) (h : u < 18446744073709551616) : (Lib.decDigits u).length ≤ 20 := by
  rw [Lib.decDigits_length]
  by_cases h0 : u = 0
  · subst h0; rw [Lib.nDigits_small (by decide)]; decide
  · have h1 := Lib.nDigits_unique
    have h2 : Lib.nDigits u ≤ 20 := by
      have hp := Lib.nDigits_pos u
      by_cases h3 : Lib.nDigits u ≤ 20
      · exact h3
      · exfalso
        have := (Lib.numDigits_eq u (by omega) h)
        obtain ⟨e, l⟩ := this
        split at e <;> omega
    exact h2
theorem digit_eq (u : Nat) : UInt8.ofNat (48 + (u : Int) % 10).toNat = dig u := by
  rw [show (48 + (u : Int) % 10).toNat = 48 + u % 10 from by omega]; rfl
theorem cat1 (c : UInt8) (t : List UInt8) : (ByteArray.mk #[c] ++ ByteArray.mk t.toArray) = ByteArray.mk (c :: t).toArray := by
  apply ByteArray.ext; simp [ByteArray.data_append]
theorem len_t {m u : Nat} {t : List UInt8} (h : dd u ++ t = Lib.decDigits m) (hm : m < 18446744073709551616) : t.length ≤ 20 := by
  have h1 := dec_len m hm
  rw [← h, List.length_append] at h1
  omega

/-- The text of a mark: m and the numeral. -/
def mt (k : Nat) : ByteArray := ⟨(109 :: Lib.decDigits k).toArray⟩
theorem mt_zero : mt 0 = ⟨#[109, 48]⟩ := by unfold mt; rw [Lib.decDigits_one (by decide)]; rfl
theorem mt_end {k : Nat} {t : List UInt8} (h : t = Lib.decDigits k) : (ByteArray.mk #[109] ++ ByteArray.mk t.toArray) = mt k := by
  rw [cat1, h]; rfl

end Go.Proofs.Ytpkicliimhflgaa

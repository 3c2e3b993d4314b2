/- Helper contracts: IsName of the program and of the model answer alike. Asked: the string is shorter than 2^63 bytes. -/
import Derived.Test.YtpkicliimhflgaaInts
import Derived.WalkSpells
import Derived.WalkLawsBesides
import Derived.Lib.Strings
namespace Go.Proofs.Ytpkicliimhflgaa
open Go.ChangeShapes Go.WideShapes Go.ChangeAt Go.RowKit

def isLow (b : UInt8) : Bool := decide (97 ≤ b.toNat ∧ b.toNat ≤ 122)
/-- A name: 1 to 8 small letters. -/
def isNm (s : ByteArray) : Bool := decide (1 ≤ s.size ∧ s.size ≤ 8) && s.data.toList.all isLow
theorem get_at {s : ByteArray} {k : Nat} (h : k < s.size) : s.data.toList[k]? = some s[k] := by
  have h2 : k < s.data.toList.length := by rw [Array.length_toList]; exact h
  rw [List.getElem?_eq_getElem h2]; rfl
/-- The first k bytes are letters. -/
def lowTo (s : ByteArray) (k : Nat) : Prop := ∀ j (h : j < s.size), j < k → isLow s[j] = true
theorem lowTo.zero (s : ByteArray) : lowTo s 0 := fun _ _ h => absurd h (Nat.not_lt_zero _)
theorem lowTo.succ {s : ByteArray} {k : Nat} (h : lowTo s k) (hk : k < s.size) (h1 : (97 : Int) ≤ (s[k].toNat : Int)) (h2 : (s[k].toNat : Int) ≤ 122) : lowTo s (k + 1) := by
  intro j hj hjk
  by_cases e : j = k
  · subst e; unfold isLow; exact decide_eq_true (by omega)
  · exact h j hj (by omega)
theorem isNm_full {s : ByteArray} {k : Nat} (h : lowTo s k) (hk : k = s.size) : isNm s = decide (1 ≤ s.size ∧ s.size ≤ 8) := by
  unfold isNm
  have : s.data.toList.all isLow = true := by
    rw [List.all_eq_true]
    intro b hb
    obtain ⟨j, hj⟩ := List.mem_iff_getElem?.1 hb
    have hjs : j < s.size := by
      have := (List.getElem?_eq_some_iff.1 hj).1
      rwa [Array.length_toList] at this
    rw [get_at hjs] at hj
    cases hj
    exact h j hjs (by omega)
  rw [this, Bool.and_true]
theorem isNm_bad {s : ByteArray} {k : Nat} (hk : k < s.size) (h : (s[k].toNat : Int) < 97 ∨ 122 < (s[k].toNat : Int)) : isNm s = false := by
  unfold isNm
  have : s.data.toList.all isLow = false := by
    rw [Bool.eq_false_iff]
    intro hall
    have := List.all_eq_true.1 hall s[k] (List.mem_iff_getElem?.2 ⟨k, get_at hk⟩)
    unfold isLow at this
    have := of_decide_eq_true this
    omega
  rw [this, Bool.and_false]
theorem isNm_len {s : ByteArray} (h : ¬ (1 ≤ s.size ∧ s.size ≤ 8)) : isNm s = false := by
  unfold isNm; rw [decide_eq_false h, Bool.false_and]

theorem inB_size (s : ByteArray) : inB s.size 1 8 = decide (1 ≤ s.size ∧ s.size ≤ 8) := by
  unfold inB
  apply decide_eq_decide.2
  omega

end Go.Proofs.Ytpkicliimhflgaa

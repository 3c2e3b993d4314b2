/- Helper contracts: IsValue of the program and of the model answer alike. Asked: the string is shorter than 2^63 bytes. -/
import Derived.Test.YtpkicliimhflgaaName
import Derived.Test.YtpkicliimhflgaaTok
namespace Go.Proofs.Ytpkicliimhflgaa
open Go.ChangeShapes Go.WideShapes Go.ChangeAt Go.RowKit

def isVcI (c : Int) : Bool := decide ((97 ≤ c ∧ c ≤ 122) ∨ (48 ≤ c ∧ c ≤ 57) ∨ c = 47)
theorem vc_of {b : UInt8} : isVc b = isVcI (b.toNat : Int) := by
  unfold isVc isVcI
  exact decide_eq_decide.2 (by omega)
theorem vc_yes {c : Int} (h : (97 ≤ c ∧ c ≤ 122) ∨ (48 ≤ c ∧ c ≤ 57) ∨ c = 47) : isVcI c = true := decide_eq_true h
theorem vc_no {c : Int} (h : ¬ ((97 ≤ c ∧ c ≤ 122) ∨ (48 ≤ c ∧ c ≤ 57) ∨ c = 47)) : isVcI c = false := decide_eq_false h
/-- The first k bytes are those of a value. -/
def valTo (s : ByteArray) (k : Nat) : Prop := ∀ j (h : j < s.size), j < k → isVc s[j] = true
theorem valTo.zero (s : ByteArray) : valTo s 0 := fun _ _ h => absurd h (Nat.not_lt_zero _)
theorem valTo.succ {s : ByteArray} {k : Nat} (h : valTo s k) (hk : k < s.size) (h1 : isVcI (s[k].toNat : Int) = true) : valTo s (k + 1) := by
  intro j hj hjk
  by_cases e : j = k
  · subst e; rw [vc_of]; exact h1
  · exact h j hj (by omega)
theorem isVal_full {s : ByteArray} {k : Nat} (h : valTo s k) (hk : k = s.size) : isVal s = decide (1 ≤ s.size ∧ s.size ≤ 20) := by
  unfold isVal
  have : s.data.toList.all isVc = true := by
    rw [List.all_eq_true]
    intro b hb
    obtain ⟨j, hj⟩ := List.mem_iff_getElem?.1 hb
    have hjs : j < s.size := by
      have := (List.getElem?_eq_some_iff.1 hj).1
      rwa [Array.length_toList] at this
    rw [get_at hjs] at hj
    cases hj
    exact h j hjs (by omega)
  rw [this, Bool.and_true]
theorem isVal_bad {s : ByteArray} {k : Nat} (hk : k < s.size) (h : isVcI (s[k].toNat : Int) = false) : isVal s = false := by
  unfold isVal
  have : s.data.toList.all isVc = false := by
    rw [Bool.eq_false_iff]
    intro hall
    have := List.all_eq_true.1 hall s[k] (List.mem_iff_getElem?.2 ⟨k, get_at hk⟩)
    rw [vc_of, h] at this
    cases this
  rw [this, Bool.and_false]
theorem isVal_len {s : ByteArray} (h : ¬ (1 ≤ s.size ∧ s.size ≤ 20)) : isVal s = false := by
  unfold isVal; rw [decide_eq_false h, Bool.false_and]
theorem inB_size20 (s : ByteArray) : inB s.size 1 20 = decide (1 ≤ s.size ∧ s.size ≤ 20) := by
  unfold inB
  apply decide_eq_decide.2
  omega
theorem cls (c : Int) : c < 47 ∨ c = 47 ∨ (48 ≤ c ∧ c ≤ 57) ∨ (57 < c ∧ c < 97) ∨ (97 ≤ c ∧ c ≤ 122) ∨ 122 < c := by omega

end Go.Proofs.Ytpkicliimhflgaa

/- Helper contracts: CompareAddrs of the program and of the model answer alike, and what its order is. No conditions beyond the types. -/
import Derived.Test.YtkjjiinccljhjaaAdr
import Derived.Test.YtkjjiinccljhjaaRec
import Derived.Test.YtkjjiinccljhjaaStr
import Derived.Lib.Bytealg
import Derived.Lib.Walk
import Derived.Laws.StructEq
import Derived.Sort.Grow
import Derived.Sort.Statements
namespace Go.Proofs.Ytkjjiinccljhjaa
open Go.ChangeShapes Go.WideShapes Go.ChangeAt Go.RowKit

abbrev cmpB (a b : List UInt8) : Int := Lib.compareBytes a b
theorem cmpB_self : ∀ l, cmpB l l = 0
  | [] => rfl
  | b :: l => by
    have h : ¬ b < b := UInt8.lt_irrefl b
    unfold cmpB Lib.compareBytes
    rw [if_neg h, if_neg h]
    exact cmpB_self l
theorem cmpB_eq : ∀ {a b}, cmpB a b = 0 → a = b
  | [], [], _ => rfl
  | [], _ :: _, h => by unfold cmpB Lib.compareBytes at h; cases h
  | _ :: _, [], h => by unfold cmpB Lib.compareBytes at h; cases h
  | x :: a, y :: b, h => by
    unfold cmpB Lib.compareBytes at h
    split at h
    · cases h
    · split at h
      · cases h
      · rename_i h1 h2
        have e : x = y := UInt8.le_antisymm (UInt8.not_lt.1 h2) (UInt8.not_lt.1 h1)
        rw [e, cmpB_eq h]
theorem cmpB_neg : ∀ a b, cmpB b a = - cmpB a b
  | [], [] => rfl
  | [], _ :: _ => rfl
  | _ :: _, [] => rfl
  | x :: a, y :: b => by
    have ih := cmpB_neg a b
    unfold cmpB Lib.compareBytes
    by_cases h1 : x < y
    · have h2 : ¬ y < x := UInt8.not_lt.2 (UInt8.le_of_lt h1)
      rw [if_pos h1, if_neg h2, if_pos h1]; rfl
    · by_cases h2 : y < x
      · rw [if_pos h2, if_neg h1, if_pos h2]
      · rw [if_neg h1, if_neg h2, if_neg h2, if_neg h1]; exact ih
theorem cmpB_vals : ∀ a b, cmpB a b = -1 ∨ cmpB a b = 0 ∨ cmpB a b = 1
  | [], [] => Or.inr (Or.inl rfl)
  | [], _ :: _ => Or.inl rfl
  | _ :: _, [] => Or.inr (Or.inr rfl)
  | x :: a, y :: b => by
    have ih := cmpB_vals a b
    unfold cmpB Lib.compareBytes
    split
    · exact Or.inl rfl
    · split
      · exact Or.inr (Or.inr rfl)
      · exact ih
theorem cmpB_less : ∀ a b, Op.bytesLess a b = decide (cmpB a b < 0)
  | [], [] => rfl
  | [], _ :: _ => rfl
  | _ :: _, [] => rfl
  | x :: a, y :: b => by
    have ih := cmpB_less a b
    unfold cmpB Lib.compareBytes Op.bytesLess
    by_cases h1 : x < y
    · rw [if_pos h1, decide_eq_true h1]; rfl
    · by_cases h2 : y < x
      · have h3 : (x == y) = false := beq_eq_false_iff_ne.2 fun e => by subst e; exact h1 h2
        rw [if_neg h1, if_pos h2, decide_eq_false h1, h3]; rfl
      · have e : x = y := UInt8.le_antisymm (UInt8.not_lt.1 h2) (UInt8.not_lt.1 h1)
        subst e
        rw [if_neg h1, decide_eq_false h1]
        simp [ih]
theorem cmpB_trans : ∀ {a b c}, cmpB a b < 0 → cmpB b c < 0 → cmpB a c < 0
  | [], [], _, h, _ => by unfold cmpB Lib.compareBytes at h; omega
  | [], _ :: _, [], _, h => by unfold cmpB Lib.compareBytes at h; omega
  | [], _ :: _, _ :: _, _, _ => by unfold cmpB Lib.compareBytes; omega
  | _ :: _, [], _, h, _ => by unfold cmpB Lib.compareBytes at h; omega
  | _ :: _, _ :: _, [], _, h => by unfold cmpB Lib.compareBytes at h; omega
  | x :: a, y :: b, z :: c, h1, h2 => by
    have ih := @cmpB_trans a b c
    unfold cmpB Lib.compareBytes at h1 h2 ⊢
    by_cases e1 : x < y
    · by_cases e2 : y < z
      · rw [if_pos (UInt8.lt_trans e1 e2)]; omega
      · by_cases e3 : z < y
        · rw [if_neg e2, if_pos e3] at h2; omega
        · have e : y = z := UInt8.le_antisymm (UInt8.not_lt.1 e3) (UInt8.not_lt.1 e2)
          subst e; rw [if_pos e1]; omega
    · by_cases e2 : y < x
      · rw [if_neg e1, if_pos e2] at h1; omega
      · have e : x = y := UInt8.le_antisymm (UInt8.not_lt.1 e2) (UInt8.not_lt.1 e1)
        subst e
        rw [if_neg e1, if_neg e1] at h1
        by_cases e3 : x < z
        · rw [if_pos e3]; omega
        · rw [if_neg e3] at h2 ⊢
          by_cases e4 : z < x
          · rw [if_pos e4] at h2; omega
          · rw [if_neg e4] at h2 ⊢
            exact ih h1 h2

def cmpA (a b : Ad) : Int := if a.1 = b.1 then cmpB a.2.data.toList b.2.data.toList else cmpB a.1.data.toList b.1.data.toList
theorem bytes_inj {a b : ByteArray} (h : a.data.toList = b.data.toList) : a = b := by
  cases a with | mk x => cases b with | mk y => rw [show x = y from Array.toList_inj.1 h]
theorem cmpA_self (a : Ad) : cmpA a a = 0 := by unfold cmpA; rw [if_pos rfl]; exact cmpB_self _
theorem cmpA_eq {a b : Ad} (h : cmpA a b = 0) : a = b := by
  unfold cmpA at h
  split at h
  · rename_i e
    exact Prod.ext e (bytes_inj (cmpB_eq h))
  · rename_i e
    exact absurd (bytes_inj (cmpB_eq h)) e
theorem cmpA_neg (a b : Ad) : cmpA b a = - cmpA a b := by
  unfold cmpA
  by_cases e : a.1 = b.1
  · rw [if_pos e, if_pos e.symm]; exact cmpB_neg _ _
  · rw [if_neg e, if_neg (Ne.symm e)]; exact cmpB_neg _ _
theorem cmpA_vals (a b : Ad) : cmpA a b = -1 ∨ cmpA a b = 0 ∨ cmpA a b = 1 := by
  unfold cmpA; split <;> exact cmpB_vals _ _
theorem cmpA_trans {a b c : Ad} (h1 : cmpA a b < 0) (h2 : cmpA b c < 0) : cmpA a c < 0 := by
  unfold cmpA at h1 h2 ⊢
  by_cases e1 : a.1 = b.1
  · rw [if_pos e1] at h1
    by_cases e2 : b.1 = c.1
    · rw [if_pos e2] at h2
      rw [if_pos (e1.trans e2)]; exact cmpB_trans h1 h2
    · rw [if_neg e2] at h2
      rw [if_neg (by rw [e1]; exact e2), e1]; exact h2
  · rw [if_neg e1] at h1
    by_cases e2 : b.1 = c.1
    · rw [if_neg (by rw [← e2]; exact e1), ← e2]; exact h1
    · rw [if_neg e2] at h2
      have h3 := cmpB_trans h1 h2
      by_cases e3 : a.1 = c.1
      · rw [e3, cmpB_self] at h3; omega
      · rw [if_neg e3]; exact h3

def encA (a : Ad) : List Value := [.string a.1, .string a.2]
theorem cmpA_hosts {h p h' p' : ByteArray} (e : h ≠ h') : cmpA (h, p) (h', p') = cmpB h.data.toList h'.data.toList := by unfold cmpA; rw [if_neg e]
theorem cmpA_paths {h p p' : ByteArray} : cmpA (h, p) (h, p') = cmpB p.data.toList p'.data.toList := by unfold cmpA; rw [if_pos rfl]

theorem less_yes {a b : ByteArray} (h : Op.bytesLess a.toList b.toList = true) : cmpB a.data.toList b.data.toList = -1 := by
  rw [ByteArray.toList_eq, ByteArray.toList_eq, cmpB_less] at h
  have := of_decide_eq_true h
  have := cmpB_vals a.data.toList b.data.toList
  omega
theorem less_no {a b : ByteArray} (h : Op.bytesLess a.toList b.toList = false) (hne : a ≠ b) : cmpB a.data.toList b.data.toList = 1 := by
  rw [ByteArray.toList_eq, ByteArray.toList_eq, cmpB_less] at h
  have h1 := of_decide_eq_false h
  have h2 := cmpB_vals a.data.toList b.data.toList
  have h0 : cmpB a.data.toList b.data.toList ≠ 0 := fun h => hne (bytes_inj (cmpB_eq h))
  omega
theorem less_self (a : ByteArray) : Op.bytesLess a.toList a.toList = false := by rw [cmpB_less, cmpB_self]; rfl

end Go.Proofs.Ytkjjiinccljhjaa

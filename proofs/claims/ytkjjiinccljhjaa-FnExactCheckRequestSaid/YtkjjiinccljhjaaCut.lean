/- Helper contracts: strings.Cut at the separator "/": the first slash parts the string. Asked: the string is shorter than 2^62 bytes. -/
import Derived.Test.YtkjjiinccljhjaaName
import Derived.Below
import Derived.Lib.Bytealg
import Derived.Lib.Walk
import Derived.Lib.Slices
namespace Go.Proofs.Ytkjjiinccljhjaa
open Go.ChangeShapes Go.WideShapes Go.ChangeAt Go.RowKit

/-- Where the first slash stands. -/
def slashAt : List UInt8 → Option Nat
  | [] => none
  | b :: l => if b = 47 then some 0 else (slashAt l).map (· + 1)
theorem index_slash_eq (l : List UInt8) : Lib.indexByte l 47 = match slashAt l with | none => -1 | some i => (i : Int) := by
  induction l with
  | nil => rfl
  | cons b l ih =>
    unfold Lib.indexByte slashAt
    by_cases h : b = 47
    · rw [if_pos (by simpa using h), if_pos h]; rfl
    · rw [if_neg (by simpa using h), if_neg h, ih]
      cases slashAt l with
      | none => rfl
      | some i =>
        simp only [Option.map_some]
        rw [if_neg (by simp)]
        rfl
theorem slashAt_some {l : List UInt8} {i : Nat} (h : slashAt l = some i) : i < l.length ∧ l[i]? = some 47 ∧ ∀ j, j < i → l[j]? ≠ some 47 := by
  induction l generalizing i with
  | nil => cases h
  | cons b l ih =>
    unfold slashAt at h
    by_cases e : b = 47
    · rw [if_pos e] at h; cases h
      exact ⟨by simp, by simp [e], fun j hj => absurd hj (Nat.not_lt_zero _)⟩
    · rw [if_neg e] at h
      cases hs : slashAt l with
      | none => rw [hs] at h; cases h
      | some k =>
        rw [hs] at h
        simp only [Option.map_some, Option.some.injEq] at h
        subst h
        obtain ⟨h1, h2, h3⟩ := ih hs
        refine ⟨by simp; omega, by simpa using h2, fun j hj => ?_⟩
        cases j with
        | zero => simp [e]
        | succ j => simpa using h3 j (by omega)
theorem slashAt_none {l : List UInt8} (h : slashAt l = none) : ∀ j : Nat, l[j]? ≠ some 47 := by
  induction l with
  | nil => simp
  | cons b l ih =>
    unfold slashAt at h
    by_cases e : b = 47
    · rw [if_pos e] at h; cases h
    · rw [if_neg e] at h
      intro j
      cases j with
      | zero => simp [e]
      | succ j => simpa using ih (by simpa using h) j
theorem slashAt_of_first {l : List UInt8} {i : Nat} (h1 : l[i]? = some 47) (h2 : ∀ j, j < i → l[j]? ≠ some 47) : slashAt l = some i := by
  cases h : slashAt l with
  | none => exact absurd h1 (slashAt_none h i)
  | some k =>
    obtain ⟨h3, h4, h5⟩ := slashAt_some h
    rcases Nat.lt_trichotomy i k with c | c | c
    · exact absurd h1 (h5 i c)
    · rw [c]
    · exact absurd h4 (h2 k c)
theorem slashAt_of_none {l : List UInt8} (h : ∀ j : Nat, l[j]? ≠ some 47) : slashAt l = none := by
  cases hs : slashAt l with
  | none => rfl
  | some k => exact absurd (slashAt_some hs).2.1 (h k)

/-- What Cut returns at "/". -/
def cutV (s : ByteArray) : Value := match slashAt s.data.toList with
  | none => .tuple #[.string s, .string ⟨#[]⟩, .bool false]
  | some i => .tuple #[.string (s.extract 0 i), .string (s.extract (i + 1) s.size), .bool true]

end Go.Proofs.Ytkjjiinccljhjaa

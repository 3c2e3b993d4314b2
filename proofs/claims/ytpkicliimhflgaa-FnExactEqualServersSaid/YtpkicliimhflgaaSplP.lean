/- Helper contracts: the model's own division of a text, and its search for a byte. Asked: the string is shorter than 2^40 bytes. -/
import Derived.Test.YtpkicliimhflgaaEs
import Derived.Test.YtpkicliimhflgaaStr
import Derived.Test.YtpkicliimhflgaaName
namespace Go.Proofs.Ytpkicliimhflgaa
open Go.ChangeShapes Go.WideShapes Go.ChangeAt Go.RowKit

theorem byte_eq {s : ByteArray} {k : Nat} (hk : k < s.size) {c : UInt8} (h : s[k] = c) : s.data.toList[k]? = some c := by rw [get_at hk, h]
theorem byte_ne {s : ByteArray} {k : Nat} {c : UInt8} (h : ∀ hk : k < s.size, s[k] ≠ c) : s.data.toList[k]? ≠ some c := by
  intro e
  have hk : k < s.size := by have := (List.getElem?_eq_some_iff.1 e).1; rwa [size_list] at this
  rw [get_at hk] at e
  exact h hk (Option.some.inj e)
theorem u8_beq (b c : UInt8) : ((b.toNat : Int) == (c.toNat : Int)) = decide (b = c) := by
  by_cases h : b = c
  · subst h; simp
  · rw [decide_eq_false h]
    refine beq_eq_false_iff_ne.2 fun e => h (UInt8.toNat_inj.1 (by omega))

/-- No byte c from a on and below k. -/
def noB (c : UInt8) (s : ByteArray) (a k : Nat) : Prop := ∀ j, a ≤ j → j < k → s.data.toList[j]? ≠ some c
theorem noB.succ {c : UInt8} {s : ByteArray} {a k : Nat} (h : noB c s a k) (hk : s.data.toList[k]? ≠ some c) : noB c s a (k + 1) := by
  intro j h1 h2
  by_cases e : j = k
  · subst e; exact hk
  · exact h j h1 (by omega)
theorem noB.self (c : UInt8) (s : ByteArray) (a : Nat) : noB c s a a := fun _ h1 h2 => absurd h1 (by omega)

/-- The pieces as strings. -/
def splS (c : UInt8) (l : List UInt8) : List ByteArray := (splitB c l).map ofL
theorem splS_len (c : UInt8) (l : List UInt8) : (splS c l).length ≤ l.length + 1 := by unfold splS; rw [List.length_map]; exact splitB_length c l
theorem splS_round {c : UInt8} {s : ByteArray} {a i : Nat} (hai : a ≤ i) (hi : s.data.toList[i]? = some c) (hf : noB c s a i) :
    splS c (s.data.toList.drop a) = s.extract a i :: splS c (s.data.toList.drop (i + 1)) := by
  unfold splS
  rw [split_round hai hi hf, List.map_cons, extract_eq]
theorem splS_last {c : UInt8} {s : ByteArray} {a i : Nat} (hi : i = s.size) (hf : noB c s a i) :
    splS c (s.data.toList.drop a) = [s.extract a i] := by
  subst hi
  unfold splS
  rw [split_last fun j hj he => hf j hj (by have := (List.getElem?_eq_some_iff.1 he).1; rwa [size_list] at this) he, List.map_cons, List.map_nil, extract_suf]
theorem readsS_one (w : World) (s : ByteArray) : ReadsK encS 1 (w.heap.size + 1) (w.alloc (.cells #[.string s] 9)) (.slice (some ⟨w.heap.size, 0, none⟩) 1 1) [s] := by
  refine ⟨_, 1, rfl, by simp, by omega, (fun h => by cases h), Or.inr ⟨_, 0, rfl, by omega, fun j y hy i hi' => ?_⟩⟩
  have hj : j = 0 := by have := (List.getElem?_eq_some_iff.1 hy).1; simp at this; omega
  subst hj
  simp only [List.getElem?_cons_zero, Option.some.injEq] at hy
  subst hy
  obtain rfl : i = 0 := by omega
  simp [encS]
end Go.Proofs.Ytpkicliimhflgaa

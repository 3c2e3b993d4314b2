/- Helper contracts over the varints of the program and of the model: which bytes they append. Asked: the slices read as the lists named. -/
import Derived.Test.YtlehahpgdafnoaaHelpB
import Derived.Test.YtlehahpgdafnoaaInts
namespace Go.Proofs.Ytlehahpgdafnoaa
open Go.ChangeShapes Go.WideShapes Go.ChangeAt Go.RowKit

/-- The groups of seven bits, the least first. -/
def vgo (n : Nat) : List Int := if n < 128 then [(n : Int)] else ((n % 128 + 128 : Nat) : Int) :: vgo (n / 128)
termination_by n
decreasing_by omega
def vint (n : Int) : List Int := if 0 ≤ n ∧ n ≤ 1000000000000 then vgo n.toNat else []
theorem vgo_small {n : Nat} (h : n < 128) : vgo n = [(n : Int)] := by rw [vgo, if_pos h]
theorem vgo_step {n : Nat} (h : ¬ n < 128) : vgo n = ((n % 128 + 128 : Nat) : Int) :: vgo (n / 128) := by rw [vgo, if_neg h]
theorem vgo_len : ∀ (k n : Nat), n < 128 ^ (k + 1) → (vgo n).length ≤ k + 1 := by
  intro k
  induction k with
  | zero => intro n h; rw [vgo_small (by simpa using h)]; simp
  | succ k ih =>
    intro n h
    by_cases h1 : n < 128
    · rw [vgo_small h1]; simp
    · rw [vgo_step h1, List.length_cons]
      have := ih (n / 128) (by rw [Nat.pow_succ] at h; exact Nat.div_lt_of_lt_mul (by rw [Nat.mul_comm]; exact h))
      omega
theorem vgo_len6 {n : Nat} (h : n ≤ 1000000000000) : (vgo n).length ≤ 6 := vgo_len 5 n (by omega)
theorem vint_len (n : Int) : (vint n).length ≤ 6 := by
  unfold vint
  split
  · exact vgo_len6 (by omega)
  · simp
theorem vgo_bytes : ∀ n : Nat, Bytes (vgo n) := by
  intro n
  induction n using Nat.strongRecOn with
  | _ n ih =>
    by_cases h : n < 128
    · rw [vgo_small h]; intro z hz; simp at hz; omega
    · rw [vgo_step h]
      intro z hz
      rcases List.mem_cons.1 hz with rfl | hz
      · omega
      · exact ih (n / 128) (by omega) z hz
theorem vint_bytes (n : Int) : Bytes (vint n) := by
  unfold vint
  split
  · exact vgo_bytes _
  · intro z hz; simp at hz
end Go.Proofs.Ytlehahpgdafnoaa

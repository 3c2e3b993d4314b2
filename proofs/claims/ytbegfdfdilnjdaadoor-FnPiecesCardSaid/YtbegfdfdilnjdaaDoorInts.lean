/- Helper contracts over the integer functions of the program and of the model: what InRange, l1In, Min, Max and lowAndHigh return. No conditions beyond the types. -/
import Derived.Test.YtbegfdfdilnjdaaDoorRows
import Derived.WalkKit
import Derived.ProofKit
import Derived.OpenShut
import Derived.LoopTactic
import Derived.Deep.QuietTactic
import Derived.BigQuiet
import Derived.Lib.Hide
namespace Go.Proofs.YtbegfdfdilnjdaaDoor
open Go.ChangeShapes Go.WideShapes Go.ChangeAt Go.RowKit

def inB (n lo hi : Int) : Bool := decide (lo ≤ n ∧ n ≤ hi)
theorem inB_yes {n lo hi : Int} (h1 : lo ≤ n) (h2 : n ≤ hi) : inB n lo hi = true := by unfold inB; exact decide_eq_true ⟨h1, h2⟩
theorem inB_no {n lo hi : Int} (h : n < lo ∨ hi < n) : inB n lo hi = false := by unfold inB; exact decide_eq_false (by omega)
theorem ret_b {a b : Bool} (h : a = b) : Ending.returned (.bool a) = .returned (.bool b) := by rw [h]
theorem ret_i {a b : Int} (h : a = b) : Ending.returned (.int .i64 a) = .returned (.int .i64 b) := by rw [h]

theorem rin_any (n lo hi : Int) (w : World) :
    Calls Tryd.prog 42 #[.int .i64 n, .int .i64 lo, .int .i64 hi] w fun e w' => e = .returned (.bool (inB n lo hi)) ∧ w = w' := by
  by_cases h1 : lo ≤ n
  · by_cases h2 : n ≤ hi
    · go_enter Tryd.func42, Tryd.ntmps42
      go_wp2
      go_ret
      exact ⟨ret_b (inB_yes h1 h2).symm, rfl⟩
    · go_enter Tryd.func42, Tryd.ntmps42
      go_wp2
      go_ret
      exact ⟨ret_b (inB_no (by omega)).symm, rfl⟩
  · have h2 : decide (lo ≤ n) = false := decide_eq_false h1
    go_enter Tryd.func42, Tryd.ntmps42
    go_wp2
    go_ret
    exact ⟨ret_b (inB_no (by omega)).symm, rfl⟩

theorem lin_any (n lo hi : Int) (w : World) :
    Calls Tryd.prog 44 #[.int .i64 n, .int .i64 lo, .int .i64 hi] w fun e w' => e = .returned (.bool (inB n lo hi)) ∧ w = w' := by
  by_cases h1 : lo ≤ n
  · by_cases h2 : n ≤ hi
    · go_enter Tryd.func44, Tryd.ntmps44
      go_wp2
      go_ret
      exact ⟨ret_b (inB_yes h1 h2).symm, rfl⟩
    · go_enter Tryd.func44, Tryd.ntmps44
      go_wp2
      go_ret
      exact ⟨ret_b (inB_no (by omega)).symm, rfl⟩
  · have h2 : decide (lo ≤ n) = false := decide_eq_false h1
    go_enter Tryd.func44, Tryd.ntmps44
    go_wp2
    go_ret
    exact ⟨ret_b (inB_no (by omega)).symm, rfl⟩

def cdivI (a b : Int) : Int := if 0 ≤ a ∧ a ≤ 1000000000000 ∧ 1 ≤ b ∧ b ≤ 1000000000000 then (a + b - 1) / b else 0

def modI (a b : Int) : Int := if 1 ≤ b ∧ b ≤ 1000000000000 then a % b else 0
theorem tmod_neg_lt {a b : Int} (hb : 1 ≤ b) (h : a.tmod b < 0) : a.tmod b + b = a % b := by
  have := Int.emod_eq_add_self_emod (a := a) (b := b)
  rw [Int.tmod_eq_emod] at *
  split at h <;> rename_i hc
  · have := Int.emod_nonneg a (b := b) (by omega); omega
  · rw [if_neg hc]; have : (b.natAbs : Int) = b := by omega
    omega
theorem tmod_nonneg_eq {a b : Int} (hb : 1 ≤ b) (h : ¬ a.tmod b < 0) : a.tmod b = a % b := by
  rw [Int.tmod_eq_emod] at *
  split <;> rename_i hc
  · omega
  · rw [if_neg hc] at h; have : (b.natAbs : Int) = b := by omega
    have := Int.emod_lt_of_pos a (b := b) (by omega); omega
theorem tmod_bd {a b : Int} (hb : 1 ≤ b) : -b < a.tmod b ∧ a.tmod b < b := by
  have h1 := Int.emod_lt_of_pos a (b := b) (by omega)
  have h2 := Int.emod_nonneg a (b := b) (by omega)
  rw [Int.tmod_eq_emod]
  have : (b.natAbs : Int) = b := by omega
  split <;> omega

def minI (a b : Int) : Int := if b < a then b else a
def maxI (a b : Int) : Int := if a < b then b else a

set_option maxHeartbeats 400000 in
theorem lah (a x : Int) (bl : Nat) (w : World) (hc : w.cell? ⟨bl, 0, none⟩ = some (.int .i64 x)) :
    Calls Tryd.prog 74 #[.int .i64 a, .slice (some ⟨bl, 0, none⟩) 1 1] w fun e w' => e = .returned (.tuple #[.int .i64 (minI a x), .int .i64 (maxI a x)]) ∧ w = w' := by
  go_enter Tryd.func74, Tryd.ntmps74
  go_wp2
  go_loop [6, 7, 14] (fun lo hi i => (lo = .int .i64 a ∧ hi = .int .i64 a ∧ i = .int .i64 0) ∨ (lo = .int .i64 (minI a x) ∧ hi = .int .i64 (maxI a x) ∧ i = .int .i64 1)) (fun _ _ i => 1 - (intOf i).toNat)
  case atStart => exact Or.inl ⟨rfl, rfl, rfl⟩
  case round =>
    rcases hrel with ⟨rfl, rfl, rfl⟩ | ⟨rfl, rfl, rfl⟩
    · by_cases h1 : x < a
      · have e1 : minI a x = x := by unfold minI; rw [if_pos h1]
        have e2 : maxI a x = a := by unfold maxI; rw [if_neg (by omega)]
        have E1 := Lib.hid e1; have E2 := Lib.hid e2; clear e1 e2
        go_wp2
        go_round
        case rel => exact Or.inr ⟨by rw [E1.out], by rw [E2.out], rfl⟩
        case measure => simp [intOf]
      · by_cases h2 : a < x
        · have e1 : minI a x = a := by unfold minI; rw [if_neg h1]
          have e2 : maxI a x = x := by unfold maxI; rw [if_pos h2]
          have E1 := Lib.hid e1; have E2 := Lib.hid e2; clear e1 e2
          go_wp2
          go_round
          case rel => exact Or.inr ⟨by rw [E1.out], by rw [E2.out], rfl⟩
          case measure => simp [intOf]
        · have e1 : minI a x = a := by unfold minI; rw [if_neg h1]
          have e2 : maxI a x = a := by unfold maxI; rw [if_neg h2]
          have E1 := Lib.hid e1; have E2 := Lib.hid e2; clear e1 e2
          go_wp2
          go_round
          case rel => exact Or.inr ⟨by rw [E1.out], by rw [E2.out], rfl⟩
          case measure => simp [intOf]
    · go_wp2
      go_ret2
      exact ⟨rfl, rfl⟩

theorem max_impl (a b : Int) (w : World) :
    Calls Tryd.prog 65 #[.int .i64 a, .int .i64 b] w fun e w' => e = .returned (.int .i64 (maxI a b)) ∧ w' = w.alloc (.cells #[.int .i64 b] 3) := by
  go_enter Tryd.func65, Tryd.ntmps65
  go_wp2_with (go_at_call 74; refine (lah a b w.heap.size _ (by simp [go_sem])).mono ?_; rintro e w' ⟨rfl, rfl⟩)
  go_ret
  exact ⟨rfl, rfl⟩
end Go.Proofs.YtbegfdfdilnjdaaDoor

/- Helper contracts over the varints of the program and of the model: which bytes they append. Asked: the slices read as the lists named. -/
import Derived.Test.YtemoegnijnhigaaHelpB
import Derived.Test.YtemoegnijnhigaaInts
namespace Go.Proofs.Ytemoegnijnhigaa
open Go.ChangeShapes Go.WideShapes Go.ChangeAt Go.RowKit

/-- The groups of seven bits, the least first. -/
def vgo (n : Nat) : List Int := if n < 128 then [(n : Int)] else ((n % 128 + 128 : Nat) : Int) :: vgo (n / 128)
termination_by n
decreasing_by omega
def vint (n : Int) : List Int := if 0 ≤ n ∧ n ≤ 1000000000000 then vgo n.toNat else []
theorem vgo_small {n : Nat} (h : n < 128) : vgo n = [(n : Int)] := by rw [vgo, if_pos h]
theorem vgo_step {n : Nat} (h : ¬ n < 128) : vgo n = ((n % 128 + 128 : Nat) : Int) :: vgo (n / 128) := by rw [vgo, if_neg h]
theorem vgo_len : ∀ (k n : Nat), n < 128 ^ (k + 1) → (vgo n).length ≤ k + 1 := by
  intro k
  induction k with
  | zero => intro n h; rw [vgo_small (by simpa using h)]; simp
  | succ k ih =>
    intro n h
    by_cases h1 : n < 128
    · rw [vgo_small h1]; simp
    · rw [vgo_step h1, List.length_cons]
      have := ih (n / 128) (by rw [Nat.pow_succ] at h; exact Nat.div_lt_of_lt_mul (by rw [Nat.mul_comm]; exact h))
      omega
theorem vgo_len6 {n : Nat} (h : n ≤ 1000000000000) : (vgo n).length ≤ 6 := vgo_len 5 n (by omega)
theorem vint_len (n : Int) : (vint n).length ≤ 6 := by
  unfold vint
  split
  · exact vgo_len6 (by omega)
  · simp
theorem vgo_bytes : ∀ n : Nat, Bytes (vgo n) := by
  intro n
  induction n using Nat.strongRecOn with
  | _ n ih =>
    by_cases h : n < 128
    · rw [vgo_small h]; intro z hz; simp at hz; omega
    · rw [vgo_step h]
      intro z hz
      rcases List.mem_cons.1 hz with rfl | hz
      · omega
      · exact ih (n / 128) (by omega) z hz
theorem vint_bytes (n : Int) : Bytes (vint n) := by
  unfold vint
  split
  · exact vgo_bytes _
  · intro z hz; simp at hz

set_option maxHeartbeats 1000000 in
theorem varint_any (n0 : Int) (w : World) :
    Calls Try.prog 49 #[.int .i64 n0] w (New .u8 5 (vint n0) w) := by
  obtain ⟨i0, hi0, hz0, hz1, hz2⟩ := info_parts info8
  have HM := Lib.hid (Mine.empty .u8 5 w w w.heap.size (Below.refl _ _) (Nat.le_refl _))
  by_cases hn : 0 ≤ n0 ∧ n0 ≤ 1000000000000
  · have e1 : inB n0 0 1000000000000 = true := inB_yes hn.1 hn.2
    have ev : vint n0 = vgo n0.toNat := by unfold vint; rw [if_pos hn]
    obtain ⟨hn1, hn2⟩ := hn
    have hlen := vgo_len6 (n := n0.toNat) (by omega)
    have EV := Lib.hid ev; have HL := Lib.hid hlen; clear ev hlen
    go_enter Try.func49, Try.ntmps49
    go_wp2_with (go_at_call 50; refine (rin_any _ _ _ _).mono ?_; rintro e w' ⟨rfl, rfl⟩)
    go_loopw [3, 0] (fun v m wr => ∃ (k : Nat) (pre : List Int), (k : Int) ≤ 1000000000000 ∧ m = .int .i64 k ∧ Mine .u8 5 w.heap.size w wr v pre ∧ pre ++ vgo k = vgo n0.toNat)
      (fun _ m _ => (intOf m).toNat)
    case atStart => exact ⟨n0.toNat, [], by omega, by rw [Int.toNat_of_nonneg hn1], HM.out, rfl⟩
    case round =>
      obtain ⟨k, pre, hk, rfl, hmine, heq⟩ := hrel
      have HMI := Lib.hid hmine; have HE := Lib.hid heq
      clear hmine heq HM
      by_cases hlt : (128 : Int) ≤ (k : Int)
      · go_wp2_with (at_builtin; refine wpList_app rfl _ _ 22 rfl .u8 5 i0 (.int .u8 0) 1 Try.underlying22 hi0 hz0 hz1 hz2 rfl w.heap.size w _ pre rfl (HMI.out.alloc _) _ _ [(k : Int) % 128 + 128] rfl (reads_one _ _ _ rfl) (by decide) ?c3 ?_)
        case c3 => have h1 := HL.out; rw [← HE.out, List.length_append] at h1; simp; omega
        intro v' w1 hm1
        have HM1 := Lib.hid hm1; clear hm1
        go_wp2
        go_roundw
        case rel =>
          refine ⟨k / 128, _, by omega, by go_num, HM1.out, ?_⟩
          rw [← HE.out, vgo_step (n := k) (by omega)]
          simp
        case measure => simp [intOf]; omega
      · have hk2 : decide ((128 : Int) ≤ (k : Int)) = false := decide_eq_false hlt
        have hk3 : (k : Int) < 256 := by omega
        go_wp2_with (at_builtin; refine wpList_app rfl _ _ 22 rfl .u8 5 i0 (.int .u8 0) 1 Try.underlying22 hi0 hz0 hz1 hz2 rfl w.heap.size w _ pre rfl (HMI.out.alloc _) _ _ [(k : Int)] rfl (reads_one _ _ _ rfl) (by decide) ?c3 ?_)
        case c3 => have h1 := HL.out; rw [← HE.out, List.length_append] at h1; simp; omega
        intro v' w1 hm1
        have HM1 := Lib.hid hm1; clear hm1
        go_wp2
        go_ret
        refine ⟨_, rfl, ?_, HM1.out.below⟩
        have h2 := HE.out
        rw [vgo_small (n := k) (by omega)] at h2
        rw [EV.out, ← h2]
        exact HM1.out.own
  · have e1 : inB n0 0 1000000000000 = false := inB_no (by omega)
    have ev : vint n0 = [] := by unfold vint; rw [if_neg hn]
    have EV := Lib.hid ev; clear ev
    go_enter Try.func49, Try.ntmps49
    go_wp2_with (go_at_call 50; refine (rin_any _ _ _ _).mono ?_; rintro e w' ⟨rfl, rfl⟩)
    go_ret
    refine ⟨_, rfl, ?_, HM.out.below⟩
    rw [EV.out]
    exact HM.out.own
end Go.Proofs.Ytemoegnijnhigaa

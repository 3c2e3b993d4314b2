/- Helper contracts: Hash, KeyedHash and IsValidKey of the program and of the model answer alike: the fold of the numbers named. Asked: the slices read as the lists named. -/
import Derived.Test.YtgcdfkpidcdicaaDoorInts
import Derived.Test.YtgcdfkpidcdicaaDoorConcatI
import Derived.Test.YtgcdfkpidcdicaaDoorHelpI
namespace Go.Proofs.YtgcdfkpidcdicaaDoor
open Go.ChangeShapes Go.WideShapes Go.ChangeAt Go.RowKit

/-- One step of the fold. -/
def hstep (a z : Int) : Int := (a * 1000003 + modI z 2147483647 + 13) % 2147483647
/-- The fold of the first k numbers. -/
def hashL (zs : List Int) : Nat → Int
  | 0 => 11
  | k + 1 => hstep (hashL zs k) (zs.getD k 0)
theorem modI_M (z : Int) : 0 ≤ modI z 2147483647 ∧ modI z 2147483647 < 2147483647 := by
  unfold modI; rw [if_pos (by omega)]; omega
theorem hstep_bd (a z : Int) : 0 ≤ hstep a z ∧ hstep a z < 2147483647 := by unfold hstep; omega
theorem hashL_bd (zs : List Int) (k : Nat) : 0 ≤ hashL zs k ∧ hashL zs k < 2147483647 := by
  cases k with
  | zero => simp [hashL]
  | succ k => exact hstep_bd _ _

set_option maxHeartbeats 1000000 in
theorem specHash_any (v : Value) (hi : Nat) (zs : List Int) (w : World) (hr : Reads .i64 hi w v zs) :
    Calls Tryd.prog 69 #[v] w fun e w' => e = .returned (.int .i64 (hashL zs zs.length)) ∧ w = w' := by
  obtain ⟨a, cap, rfl, h1, h2, -, hcells⟩ := hr
  have HC := Lib.hid hcells; clear hcells
  obtain ⟨n, hn⟩ : ∃ n, zs.length = n := ⟨_, rfl⟩
  rw [hn] at h1 HC ⊢
  go_enter Tryd.func69, Tryd.ntmps69
  go_wp2
  go_loop [3, 4] (fun d i => ∃ k : Nat, k ≤ n ∧ i = .int .i64 k ∧ d = .int .i64 (hashL zs k)) (fun _ i => n - (intOf i).toNat)
  case atStart => exact ⟨0, Nat.zero_le _, rfl, rfl⟩
  case round =>
    obtain ⟨k, hk, rfl, rfl⟩ := hrel
    obtain ⟨D, hD⟩ : ∃ D, hashL zs k = D := ⟨_, rfl⟩
    have hd := hashL_bd zs k
    rw [hD] at hd ⊢
    obtain ⟨hd0, hd1⟩ := hd
    have HD := Lib.hid hD; clear hD
    by_cases hlt : (k : Int) < (n : Int)
    · rcases HC.out with h0 | ⟨g, off, rfl, hg, hcells⟩
      · omega
      · have c1 : w.cell? ⟨g, off + k, none⟩ = some (.int .i64 (zs.getD k 0)) := hcells k (by omega)
        obtain ⟨z, hz⟩ : ∃ z, zs.getD k 0 = z := ⟨_, rfl⟩
        rw [hz] at c1
        have HZ := Lib.hid hz
        clear hcells hz
        go_wp2_with fail
        refine (mod_spec z 2147483647 w).mono ?_
        rintro e w1 ⟨rfl, rfl⟩
        obtain ⟨m, hm⟩ : ∃ m, modI z 2147483647 = m := ⟨_, rfl⟩
        have hmb := modI_M z
        rw [hm] at hmb ⊢
        obtain ⟨hm0, hm1⟩ := hmb
        have HE := Lib.hid (show hashL zs (k + 1) = (D * 1000003 + m + 13) % 2147483647 by simp only [hashL, hstep]; rw [HD.out, HZ.out, hm])
        clear hm
        go_wp2
        go_round
        case rel => exact ⟨k + 1, by omega, by go_num, by rw [HE.out]⟩
        case measure => simp [intOf]; omega
    · have hkn : k = n := by omega
      subst hkn
      go_wp2
      go_ret
      exact ⟨by rw [HD.out]; rfl, rfl⟩

set_option maxHeartbeats 1000000 in
theorem implHash_any (v : Value) (hi : Nat) (zs : List Int) (w : World) (hr : Reads .i64 hi w v zs) :
    Calls Tryd.prog 72 #[v] w fun e w' => e = .returned (.int .i64 (hashL zs zs.length)) ∧ w = w' := by
  obtain ⟨a, cap, rfl, h1, h2, -, hcells⟩ := hr
  have HC := Lib.hid hcells; clear hcells
  obtain ⟨n, hn⟩ : ∃ n, zs.length = n := ⟨_, rfl⟩
  rw [hn] at h1 HC ⊢
  go_enter Tryd.func72, Tryd.ntmps72
  go_wp2
  go_loop [3, 8] (fun d i => ∃ k : Nat, k ≤ n ∧ i = .int .i64 k ∧ d = .int .i64 (hashL zs k)) (fun _ i => n - (intOf i).toNat)
  case atStart => exact ⟨0, Nat.zero_le _, rfl, rfl⟩
  case round =>
    obtain ⟨k, hk, rfl, rfl⟩ := hrel
    obtain ⟨D, hD⟩ : ∃ D, hashL zs k = D := ⟨_, rfl⟩
    have hd := hashL_bd zs k
    rw [hD] at hd ⊢
    obtain ⟨hd0, hd1⟩ := hd
    have HD := Lib.hid hD; clear hD
    by_cases hlt : (k : Int) < (n : Int)
    · rcases HC.out with h0 | ⟨g, off, rfl, hg, hcells⟩
      · omega
      · have c1 : w.cell? ⟨g, off + k, none⟩ = some (.int .i64 (zs.getD k 0)) := hcells k (by omega)
        obtain ⟨z, hz⟩ : ∃ z, zs.getD k 0 = z := ⟨_, rfl⟩
        rw [hz] at c1
        have HZ := Lib.hid hz
        clear hcells hz
        go_wp2_with fail
        refine (mod_impl z 2147483647 w).mono ?_
        rintro e w1 ⟨rfl, rfl⟩
        obtain ⟨m, hm⟩ : ∃ m, modI z 2147483647 = m := ⟨_, rfl⟩
        have hmb := modI_M z
        rw [hm] at hmb ⊢
        obtain ⟨hm0, hm1⟩ := hmb
        have HE := Lib.hid (show hashL zs (k + 1) = (D * 1000003 + m + 13) % 2147483647 by simp only [hashL, hstep]; rw [HD.out, HZ.out, hm])
        clear hm
        go_wp2
        go_round
        case rel => exact ⟨k + 1, by omega, by go_num, by rw [HE.out]⟩
        case measure => simp [intOf]; omega
    · have hkn : k = n := by omega
      subst hkn
      go_wp2
      go_ret
      exact ⟨by rw [HD.out]; rfl, rfl⟩
end Go.Proofs.YtgcdfkpidcdicaaDoor

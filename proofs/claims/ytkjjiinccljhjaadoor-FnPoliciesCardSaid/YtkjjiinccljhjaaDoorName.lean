/- Helper contracts: IsName of the program and of the model answer alike. Asked: the string is shorter than 2^63 bytes. -/
import Derived.Test.YtkjjiinccljhjaaDoorInts
import Derived.WalkSpells
import Derived.WalkLawsBesides
import Derived.Lib.Strings
namespace Go.Proofs.YtkjjiinccljhjaaDoor
open Go.ChangeShapes Go.WideShapes Go.ChangeAt Go.RowKit

def isLow (b : UInt8) : Bool := decide (97 ≤ b.toNat ∧ b.toNat ≤ 122)
/-- A name: 1 to 8 small letters. -/
def isNm (s : ByteArray) : Bool := decide (1 ≤ s.size ∧ s.size ≤ 8) && s.data.toList.all isLow
theorem get_at {s : ByteArray} {k : Nat} (h : k < s.size) : s.data.toList[k]? = some s[k] := by
  have h2 : k < s.data.toList.length := by rw [Array.length_toList]; exact h
  rw [List.getElem?_eq_getElem h2]; rfl
/-- The first k bytes are letters. -/
def lowTo (s : ByteArray) (k : Nat) : Prop := ∀ j (h : j < s.size), j < k → isLow s[j] = true
theorem lowTo.zero (s : ByteArray) : lowTo s 0 := fun _ _ h => absurd h (Nat.not_lt_zero _)
theorem lowTo.succ {s : ByteArray} {k : Nat} (h : lowTo s k) (hk : k < s.size) (h1 : (97 : Int) ≤ (s[k].toNat : Int)) (h2 : (s[k].toNat : Int) ≤ 122) : lowTo s (k + 1) := by
  intro j hj hjk
  by_cases e : j = k
  · subst e; unfold isLow; exact decide_eq_true (by omega)
  · exact h j hj (by omega)
theorem isNm_full {s : ByteArray} {k : Nat} (h : lowTo s k) (hk : k = s.size) : isNm s = decide (1 ≤ s.size ∧ s.size ≤ 8) := by
  unfold isNm
  have : s.data.toList.all isLow = true := by
    rw [List.all_eq_true]
    intro b hb
    obtain ⟨j, hj⟩ := List.mem_iff_getElem?.1 hb
    have hjs : j < s.size := by
      have := (List.getElem?_eq_some_iff.1 hj).1
      rwa [Array.length_toList] at this
    rw [get_at hjs] at hj
    cases hj
    exact h j hjs (by omega)
  rw [this, Bool.and_true]
theorem isNm_bad {s : ByteArray} {k : Nat} (hk : k < s.size) (h : (s[k].toNat : Int) < 97 ∨ 122 < (s[k].toNat : Int)) : isNm s = false := by
  unfold isNm
  have : s.data.toList.all isLow = false := by
    rw [Bool.eq_false_iff]
    intro hall
    have := List.all_eq_true.1 hall s[k] (List.mem_iff_getElem?.2 ⟨k, get_at hk⟩)
    unfold isLow at this
    have := of_decide_eq_true this
    omega
  rw [this, Bool.and_false]
theorem isNm_len {s : ByteArray} (h : ¬ (1 ≤ s.size ∧ s.size ≤ 8)) : isNm s = false := by
  unfold isNm; rw [decide_eq_false h, Bool.false_and]

theorem inB_size (s : ByteArray) : inB s.size 1 8 = decide (1 ≤ s.size ∧ s.size ≤ 8) := by
  unfold inB
  apply decide_eq_decide.2
  omega

set_option maxHeartbeats 1000000 in
theorem nm_impl (s : ByteArray) (hs : s.size ≤ 9223372036854775807) (w : World) :
    Calls Tryd.prog 39 #[.string s] w fun e w' => e = .returned (.bool (isNm s)) ∧ w = w' := by
  by_cases hl : 1 ≤ (s.size : Int) ∧ (s.size : Int) ≤ 8
  · obtain ⟨hl1, hl2⟩ := hl
    have e1 : inB s.size 1 8 = true := inB_yes hl1 hl2
    go_enter Tryd.func39, Tryd.ntmps39
    go_wp2_with (go_at_call 40; refine (rin_any _ _ _ _).mono ?_; rintro e w' ⟨rfl, rfl⟩)
    go_loop [10] (fun i => ∃ (k : Nat), k ≤ s.size ∧ i = .int .i64 k ∧ lowTo s k) (fun i => s.size - (intOf i).toNat)
    case atStart => exact ⟨0, Nat.zero_le _, rfl, lowTo.zero s⟩
    case round =>
      obtain ⟨k, hk, rfl, hv⟩ := hrel
      have HV := Lib.hid hv; clear hv
      by_cases hlt : k < s.size
      · have hlt2 : decide ((k : Int) < (s.size : Int)) = true := by simp; omega
        have hb8 : (s[k].toNat : Int) < 256 := by have := UInt8.toNat_lt s[k]; omega
        by_cases hd1 : (s[k].toNat : Int) < 97
        · have HN := Lib.hid (isNm_bad hlt (Or.inl hd1))
          go_wp2
          go_ret
          exact ⟨ret_b HN.out.symm, rfl⟩
        · have hd1' : decide ((s[k].toNat : Int) < 97) = false := decide_eq_false hd1
          by_cases hd2 : 122 < (s[k].toNat : Int)
          · have HN := Lib.hid (isNm_bad hlt (Or.inr hd2))
            go_wp2
            go_ret
            exact ⟨ret_b HN.out.symm, rfl⟩
          · go_wp2
            go_round
            case rel => exact ⟨k + 1, by omega, by go_num, HV.out.succ hlt (by omega) (by omega)⟩
            case measure => simp [intOf]; omega
      · have HN := Lib.hid (isNm_full HV.out (by omega))
        go_wp2
        go_ret
        exact ⟨ret_b (by rw [HN.out]; exact (decide_eq_true (by omega)).symm), rfl⟩
  · have e1 : inB s.size 1 8 = false := inB_no (by omega)
    have HN := Lib.hid (isNm_len (s := s) (by omega))
    go_enter Tryd.func39, Tryd.ntmps39
    go_wp2_with (go_at_call 40; refine (rin_any _ _ _ _).mono ?_; rintro e w' ⟨rfl, rfl⟩)
    go_ret
    exact ⟨ret_b HN.out.symm, rfl⟩

set_option maxHeartbeats 1000000 in
theorem nm_spec (s : ByteArray) (hs : s.size ≤ 9223372036854775807) (w : World) :
    Calls Tryd.prog 42 #[.string s] w fun e w' => e = .returned (.bool (isNm s)) ∧ w = w' := by
  go_enter Tryd.func42, Tryd.ntmps42
  go_wp2
  go_loop [3] (fun i => ∃ (k : Nat), k ≤ s.size ∧ i = .int .i64 k ∧ lowTo s k) (fun i => s.size - (intOf i).toNat)
  case atStart => exact ⟨0, Nat.zero_le _, rfl, lowTo.zero s⟩
  case round =>
    obtain ⟨k, hk, rfl, hv⟩ := hrel
    have HV := Lib.hid hv; clear hv
    by_cases hlt : k < s.size
    · have hlt2 : decide ((k : Int) < (s.size : Int)) = true := by simp; omega
      have hb8 : (s[k].toNat : Int) < 256 := by have := UInt8.toNat_lt s[k]; omega
      by_cases hd1 : (s[k].toNat : Int) < 97
      · have HN := Lib.hid (isNm_bad hlt (Or.inl hd1))
        go_wp2
        go_ret
        exact ⟨ret_b HN.out.symm, rfl⟩
      · have hd1' : decide ((s[k].toNat : Int) < 97) = false := decide_eq_false hd1
        by_cases hd2 : 122 < (s[k].toNat : Int)
        · have HN := Lib.hid (isNm_bad hlt (Or.inr hd2))
          go_wp2
          go_ret
          exact ⟨ret_b HN.out.symm, rfl⟩
        · go_wp2
          go_round
          case rel => exact ⟨k + 1, by omega, by go_num, HV.out.succ hlt (by omega) (by omega)⟩
          case measure => simp [intOf]; omega
    · have HN := Lib.hid (isNm_full HV.out (by omega))
      have HE := Lib.hid (inB_size s)
      go_wp2_with fail
      refine (lin_any _ _ _ _).mono ?_
      rintro e w' ⟨rfl, rfl⟩
      go_wp2
      go_ret
      exact ⟨ret_b (by rw [HN.out, HE.out]), rfl⟩
end Go.Proofs.YtkjjiinccljhjaaDoor

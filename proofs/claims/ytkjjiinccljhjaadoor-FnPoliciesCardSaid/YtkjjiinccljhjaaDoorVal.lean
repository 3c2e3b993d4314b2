/- Helper contracts: IsValue of the program and of the model answer alike. Asked: the string is shorter than 2^63 bytes. -/
import Derived.Test.YtkjjiinccljhjaaDoorName
import Derived.Test.YtkjjiinccljhjaaDoorTok
namespace Go.Proofs.YtkjjiinccljhjaaDoor
open Go.ChangeShapes Go.WideShapes Go.ChangeAt Go.RowKit

def isVcI (c : Int) : Bool := decide ((97 ≤ c ∧ c ≤ 122) ∨ (48 ≤ c ∧ c ≤ 57) ∨ c = 47)
theorem vc_of {b : UInt8} : isVc b = isVcI (b.toNat : Int) := by
  unfold isVc isVcI
  exact decide_eq_decide.2 (by omega)
theorem vc_yes {c : Int} (h : (97 ≤ c ∧ c ≤ 122) ∨ (48 ≤ c ∧ c ≤ 57) ∨ c = 47) : isVcI c = true := decide_eq_true h
theorem vc_no {c : Int} (h : ¬ ((97 ≤ c ∧ c ≤ 122) ∨ (48 ≤ c ∧ c ≤ 57) ∨ c = 47)) : isVcI c = false := decide_eq_false h
/-- The first k bytes are those of a value. -/
def valTo (s : ByteArray) (k : Nat) : Prop := ∀ j (h : j < s.size), j < k → isVc s[j] = true
theorem valTo.zero (s : ByteArray) : valTo s 0 := fun _ _ h => absurd h (Nat.not_lt_zero _)
theorem valTo.succ {s : ByteArray} {k : Nat} (h : valTo s k) (hk : k < s.size) (h1 : isVcI (s[k].toNat : Int) = true) : valTo s (k + 1) := by
  intro j hj hjk
  by_cases e : j = k
  · subst e; rw [vc_of]; exact h1
  · exact h j hj (by omega)
theorem isVal_full {s : ByteArray} {k : Nat} (h : valTo s k) (hk : k = s.size) : isVal s = decide (1 ≤ s.size ∧ s.size ≤ 20) := by
  unfold isVal
  have : s.data.toList.all isVc = true := by
    rw [List.all_eq_true]
    intro b hb
    obtain ⟨j, hj⟩ := List.mem_iff_getElem?.1 hb
    have hjs : j < s.size := by
      have := (List.getElem?_eq_some_iff.1 hj).1
      rwa [Array.length_toList] at this
    rw [get_at hjs] at hj
    cases hj
    exact h j hjs (by omega)
  rw [this, Bool.and_true]
theorem isVal_bad {s : ByteArray} {k : Nat} (hk : k < s.size) (h : isVcI (s[k].toNat : Int) = false) : isVal s = false := by
  unfold isVal
  have : s.data.toList.all isVc = false := by
    rw [Bool.eq_false_iff]
    intro hall
    have := List.all_eq_true.1 hall s[k] (List.mem_iff_getElem?.2 ⟨k, get_at hk⟩)
    rw [vc_of, h] at this
    cases this
  rw [this, Bool.and_false]
theorem isVal_len {s : ByteArray} (h : ¬ (1 ≤ s.size ∧ s.size ≤ 20)) : isVal s = false := by
  unfold isVal; rw [decide_eq_false h, Bool.false_and]
theorem inB_size20 (s : ByteArray) : inB s.size 1 20 = decide (1 ≤ s.size ∧ s.size ≤ 20) := by
  unfold inB
  apply decide_eq_decide.2
  omega
theorem cls (c : Int) : c < 47 ∨ c = 47 ∨ (48 ≤ c ∧ c ≤ 57) ∨ (57 < c ∧ c < 97) ∨ (97 ≤ c ∧ c ≤ 122) ∨ 122 < c := by omega

set_option maxHeartbeats 1000000 in
theorem vb_any (c : Int) (w : World) :
    Calls Tryd.prog 41 #[.int .u8 c] w fun e w' => e = .returned (.bool (isVcI c)) ∧ w = w' := by
  rcases cls c with h | h | h | h | h | h
  · have HV := Lib.hid (vc_no (c := c) (by omega))
    have va : decide (c < 97) = true := decide_eq_true (by omega)
    have vb : decide (122 < c) = false := decide_eq_false (by omega)
    have vc : decide (c < 48) = true := decide_eq_true (by omega)
    have vd : decide (57 < c) = false := decide_eq_false (by omega)
    have ve : decide (97 ≤ c) = false := decide_eq_false (by omega)
    have vf : decide (c ≤ 122) = true := decide_eq_true (by omega)
    have vg : decide (48 ≤ c) = false := decide_eq_false (by omega)
    have vh : decide (c ≤ 57) = true := decide_eq_true (by omega)
    have vz : (c == 47) = false := beq_eq_false_iff_ne.2 (by omega)
    go_enter Tryd.func41, Tryd.ntmps41
    go_wp2
    go_ret
    exact ⟨ret_b HV.out.symm, rfl⟩
  · have HV := Lib.hid (vc_yes (c := c) (by omega))
    have va : decide (c < 97) = true := decide_eq_true (by omega)
    have vb : decide (122 < c) = false := decide_eq_false (by omega)
    have vc : decide (c < 48) = true := decide_eq_true (by omega)
    have vd : decide (57 < c) = false := decide_eq_false (by omega)
    have ve : decide (97 ≤ c) = false := decide_eq_false (by omega)
    have vf : decide (c ≤ 122) = true := decide_eq_true (by omega)
    have vg : decide (48 ≤ c) = false := decide_eq_false (by omega)
    have vh : decide (c ≤ 57) = true := decide_eq_true (by omega)
    have vz : (c == 47) = true := beq_iff_eq.2 (by omega)
    subst h
    go_enter Tryd.func41, Tryd.ntmps41
    go_wp2
    go_ret
    exact ⟨ret_b HV.out.symm, rfl⟩
  · have HV := Lib.hid (vc_yes (c := c) (by omega))
    have va : decide (c < 97) = true := decide_eq_true (by omega)
    have vb : decide (122 < c) = false := decide_eq_false (by omega)
    have vc : decide (c < 48) = false := decide_eq_false (by omega)
    have vd : decide (57 < c) = false := decide_eq_false (by omega)
    have ve : decide (97 ≤ c) = false := decide_eq_false (by omega)
    have vf : decide (c ≤ 122) = true := decide_eq_true (by omega)
    have vg : decide (48 ≤ c) = true := decide_eq_true (by omega)
    have vh : decide (c ≤ 57) = true := decide_eq_true (by omega)
    have vz : (c == 47) = false := beq_eq_false_iff_ne.2 (by omega)
    go_enter Tryd.func41, Tryd.ntmps41
    go_wp2
    go_ret
    exact ⟨ret_b HV.out.symm, rfl⟩
  · have HV := Lib.hid (vc_no (c := c) (by omega))
    have va : decide (c < 97) = true := decide_eq_true (by omega)
    have vb : decide (122 < c) = false := decide_eq_false (by omega)
    have vc : decide (c < 48) = false := decide_eq_false (by omega)
    have vd : decide (57 < c) = true := decide_eq_true (by omega)
    have ve : decide (97 ≤ c) = false := decide_eq_false (by omega)
    have vf : decide (c ≤ 122) = true := decide_eq_true (by omega)
    have vg : decide (48 ≤ c) = true := decide_eq_true (by omega)
    have vh : decide (c ≤ 57) = false := decide_eq_false (by omega)
    have vz : (c == 47) = false := beq_eq_false_iff_ne.2 (by omega)
    go_enter Tryd.func41, Tryd.ntmps41
    go_wp2
    go_ret
    exact ⟨ret_b HV.out.symm, rfl⟩
  · have HV := Lib.hid (vc_yes (c := c) (by omega))
    have va : decide (c < 97) = false := decide_eq_false (by omega)
    have vb : decide (122 < c) = false := decide_eq_false (by omega)
    have vc : decide (c < 48) = false := decide_eq_false (by omega)
    have vd : decide (57 < c) = true := decide_eq_true (by omega)
    have ve : decide (97 ≤ c) = true := decide_eq_true (by omega)
    have vf : decide (c ≤ 122) = true := decide_eq_true (by omega)
    have vg : decide (48 ≤ c) = true := decide_eq_true (by omega)
    have vh : decide (c ≤ 57) = false := decide_eq_false (by omega)
    have vz : (c == 47) = false := beq_eq_false_iff_ne.2 (by omega)
    go_enter Tryd.func41, Tryd.ntmps41
    go_wp2
    go_ret
    exact ⟨ret_b HV.out.symm, rfl⟩
  · have HV := Lib.hid (vc_no (c := c) (by omega))
    have va : decide (c < 97) = false := decide_eq_false (by omega)
    have vb : decide (122 < c) = true := decide_eq_true (by omega)
    have vc : decide (c < 48) = false := decide_eq_false (by omega)
    have vd : decide (57 < c) = true := decide_eq_true (by omega)
    have ve : decide (97 ≤ c) = true := decide_eq_true (by omega)
    have vf : decide (c ≤ 122) = false := decide_eq_false (by omega)
    have vg : decide (48 ≤ c) = true := decide_eq_true (by omega)
    have vh : decide (c ≤ 57) = false := decide_eq_false (by omega)
    have vz : (c == 47) = false := beq_eq_false_iff_ne.2 (by omega)
    go_enter Tryd.func41, Tryd.ntmps41
    go_wp2
    go_ret
    exact ⟨ret_b HV.out.symm, rfl⟩

set_option maxHeartbeats 1000000 in
theorem val_impl (s : ByteArray) (hs : s.size ≤ 9223372036854775807) (w : World) :
    Calls Tryd.prog 21 #[.string s] w fun e w' => e = .returned (.bool (isVal s)) ∧ w = w' := by
  by_cases hl : 1 ≤ (s.size : Int) ∧ (s.size : Int) ≤ 20
  · obtain ⟨hl1, hl2⟩ := hl
    have e1 : inB s.size 1 20 = true := inB_yes hl1 hl2
    go_enter Tryd.func21, Tryd.ntmps21
    go_wp2_with (go_at_call 40; refine (rin_any _ _ _ _).mono ?_; rintro e w' ⟨rfl, rfl⟩)
    go_loop [10] (fun i => ∃ (k : Nat), k ≤ s.size ∧ i = .int .i64 k ∧ valTo s k) (fun i => s.size - (intOf i).toNat)
    case atStart => exact ⟨0, Nat.zero_le _, rfl, valTo.zero s⟩
    case round =>
      obtain ⟨k, hk, rfl, hv⟩ := hrel
      have HV := Lib.hid hv; clear hv
      by_cases hlt : k < s.size
      · have hlt2 : decide ((k : Int) < (s.size : Int)) = true := by simp; omega
        have hb8 : (s[k].toNat : Int) < 256 := by have := UInt8.toNat_lt s[k]; omega
        cases hd : isVcI (s[k].toNat : Int) with
        | false =>
          have HN := Lib.hid (isVal_bad hlt hd)
          go_wp2_with (go_at_call 41; refine (vb_any _ _).mono ?_; rintro e w' ⟨rfl, rfl⟩)
          go_ret
          exact ⟨ret_b HN.out.symm, rfl⟩
        | true =>
          have HS := Lib.hid (HV.out.succ hlt hd)
          go_wp2_with (go_at_call 41; refine (vb_any _ _).mono ?_; rintro e w' ⟨rfl, rfl⟩)
          go_round
          case rel => exact ⟨k + 1, by omega, by go_num, HS.out⟩
          case measure => simp [intOf]; omega
      · have HN := Lib.hid (isVal_full HV.out (by omega))
        go_wp2
        go_ret
        exact ⟨ret_b (by rw [HN.out]; exact (decide_eq_true (by omega)).symm), rfl⟩
  · have e1 : inB s.size 1 20 = false := inB_no (by omega)
    have HN := Lib.hid (isVal_len (s := s) (by omega))
    go_enter Tryd.func21, Tryd.ntmps21
    go_wp2_with (go_at_call 40; refine (rin_any _ _ _ _).mono ?_; rintro e w' ⟨rfl, rfl⟩)
    go_ret
    exact ⟨ret_b HN.out.symm, rfl⟩

set_option maxRecDepth 100000 in
set_option maxHeartbeats 2000000 in
theorem val_spec (s : ByteArray) (hs : s.size ≤ 9223372036854775807) (w : World) :
    Calls Tryd.prog 23 #[.string s] w fun e w' => e = .returned (.bool (isVal s)) ∧ w = w' := by
  go_enter Tryd.func23, Tryd.ntmps23
  go_wp2
  go_loop [3] (fun i => ∃ (k : Nat), k ≤ s.size ∧ i = .int .i64 k ∧ valTo s k) (fun i => s.size - (intOf i).toNat)
  case atStart => exact ⟨0, Nat.zero_le _, rfl, valTo.zero s⟩
  case round =>
    obtain ⟨k, hk, rfl, hv⟩ := hrel
    have HV := Lib.hid hv; clear hv
    by_cases hlt : k < s.size
    · have hlt2 : decide ((k : Int) < (s.size : Int)) = true := by simp; omega
      have hb8 : (s[k].toNat : Int) < 256 := by have := UInt8.toNat_lt s[k]; omega
      rcases cls (s[k].toNat : Int) with h | h | h | h | h | h
      · have HN := Lib.hid (isVal_bad hlt (vc_no (by omega)))
        have va : decide ((s[k].toNat : Int) < 97) = true := decide_eq_true (by omega)
        have vb : decide (122 < (s[k].toNat : Int)) = false := decide_eq_false (by omega)
        have vc : decide ((s[k].toNat : Int) < 48) = true := decide_eq_true (by omega)
        have vd : decide (57 < (s[k].toNat : Int)) = false := decide_eq_false (by omega)
        have ve : decide (97 ≤ (s[k].toNat : Int)) = false := decide_eq_false (by omega)
        have vf : decide ((s[k].toNat : Int) ≤ 122) = true := decide_eq_true (by omega)
        have vg : decide (48 ≤ (s[k].toNat : Int)) = false := decide_eq_false (by omega)
        have vh : decide ((s[k].toNat : Int) ≤ 57) = true := decide_eq_true (by omega)
        have vz : ((s[k].toNat : Int) == 47) = false := beq_eq_false_iff_ne.2 (by omega)
        go_wp2
        go_ret
        exact ⟨ret_b HN.out.symm, rfl⟩
      · have HS := Lib.hid (HV.out.succ hlt (vc_yes (by omega)))
        have va : decide ((s[k].toNat : Int) < 97) = true := decide_eq_true (by omega)
        have vb : decide (122 < (s[k].toNat : Int)) = false := decide_eq_false (by omega)
        have vc : decide ((s[k].toNat : Int) < 48) = true := decide_eq_true (by omega)
        have vd : decide (57 < (s[k].toNat : Int)) = false := decide_eq_false (by omega)
        have ve : decide (97 ≤ (s[k].toNat : Int)) = false := decide_eq_false (by omega)
        have vf : decide ((s[k].toNat : Int) ≤ 122) = true := decide_eq_true (by omega)
        have vg : decide (48 ≤ (s[k].toNat : Int)) = false := decide_eq_false (by omega)
        have vh : decide ((s[k].toNat : Int) ≤ 57) = true := decide_eq_true (by omega)
        have vz : ((s[k].toNat : Int) == 47) = true := beq_iff_eq.2 (by omega)
        go_wp2
        go_round
        case rel => exact ⟨k + 1, by omega, by go_num, HS.out⟩
        case measure => simp [intOf]; omega
      · have HS := Lib.hid (HV.out.succ hlt (vc_yes (by omega)))
        have va : decide ((s[k].toNat : Int) < 97) = true := decide_eq_true (by omega)
        have vb : decide (122 < (s[k].toNat : Int)) = false := decide_eq_false (by omega)
        have vc : decide ((s[k].toNat : Int) < 48) = false := decide_eq_false (by omega)
        have vd : decide (57 < (s[k].toNat : Int)) = false := decide_eq_false (by omega)
        have ve : decide (97 ≤ (s[k].toNat : Int)) = false := decide_eq_false (by omega)
        have vf : decide ((s[k].toNat : Int) ≤ 122) = true := decide_eq_true (by omega)
        have vg : decide (48 ≤ (s[k].toNat : Int)) = true := decide_eq_true (by omega)
        have vh : decide ((s[k].toNat : Int) ≤ 57) = true := decide_eq_true (by omega)
        have vz : ((s[k].toNat : Int) == 47) = false := beq_eq_false_iff_ne.2 (by omega)
        go_wp2
        go_round
        case rel => exact ⟨k + 1, by omega, by go_num, HS.out⟩
        case measure => simp [intOf]; omega
      · have HN := Lib.hid (isVal_bad hlt (vc_no (by omega)))
        have va : decide ((s[k].toNat : Int) < 97) = true := decide_eq_true (by omega)
        have vb : decide (122 < (s[k].toNat : Int)) = false := decide_eq_false (by omega)
        have vc : decide ((s[k].toNat : Int) < 48) = false := decide_eq_false (by omega)
        have vd : decide (57 < (s[k].toNat : Int)) = true := decide_eq_true (by omega)
        have ve : decide (97 ≤ (s[k].toNat : Int)) = false := decide_eq_false (by omega)
        have vf : decide ((s[k].toNat : Int) ≤ 122) = true := decide_eq_true (by omega)
        have vg : decide (48 ≤ (s[k].toNat : Int)) = true := decide_eq_true (by omega)
        have vh : decide ((s[k].toNat : Int) ≤ 57) = false := decide_eq_false (by omega)
        have vz : ((s[k].toNat : Int) == 47) = false := beq_eq_false_iff_ne.2 (by omega)
        go_wp2
        go_ret
        exact ⟨ret_b HN.out.symm, rfl⟩
      · have HS := Lib.hid (HV.out.succ hlt (vc_yes (by omega)))
        have va : decide ((s[k].toNat : Int) < 97) = false := decide_eq_false (by omega)
        have vb : decide (122 < (s[k].toNat : Int)) = false := decide_eq_false (by omega)
        have vc : decide ((s[k].toNat : Int) < 48) = false := decide_eq_false (by omega)
        have vd : decide (57 < (s[k].toNat : Int)) = true := decide_eq_true (by omega)
        have ve : decide (97 ≤ (s[k].toNat : Int)) = true := decide_eq_true (by omega)
        have vf : decide ((s[k].toNat : Int) ≤ 122) = true := decide_eq_true (by omega)
        have vg : decide (48 ≤ (s[k].toNat : Int)) = true := decide_eq_true (by omega)
        have vh : decide ((s[k].toNat : Int) ≤ 57) = false := decide_eq_false (by omega)
        have vz : ((s[k].toNat : Int) == 47) = false := beq_eq_false_iff_ne.2 (by omega)
        go_wp2
        go_round
        case rel => exact ⟨k + 1, by omega, by go_num, HS.out⟩
        case measure => simp [intOf]; omega
      · have HN := Lib.hid (isVal_bad hlt (vc_no (by omega)))
        have va : decide ((s[k].toNat : Int) < 97) = false := decide_eq_false (by omega)
        have vb : decide (122 < (s[k].toNat : Int)) = true := decide_eq_true (by omega)
        have vc : decide ((s[k].toNat : Int) < 48) = false := decide_eq_false (by omega)
        have vd : decide (57 < (s[k].toNat : Int)) = true := decide_eq_true (by omega)
        have ve : decide (97 ≤ (s[k].toNat : Int)) = true := decide_eq_true (by omega)
        have vf : decide ((s[k].toNat : Int) ≤ 122) = false := decide_eq_false (by omega)
        have vg : decide (48 ≤ (s[k].toNat : Int)) = true := decide_eq_true (by omega)
        have vh : decide ((s[k].toNat : Int) ≤ 57) = false := decide_eq_false (by omega)
        have vz : ((s[k].toNat : Int) == 47) = false := beq_eq_false_iff_ne.2 (by omega)
        go_wp2
        go_ret
        exact ⟨ret_b HN.out.symm, rfl⟩
    · have HN := Lib.hid (isVal_full HV.out (by omega))
      have HE := Lib.hid (inB_size20 s)
      go_wp2_with fail
      refine (lin_any _ _ _ _).mono ?_
      rintro e w' ⟨rfl, rfl⟩
      go_wp2
      go_ret
      exact ⟨ret_b (by rw [HN.out, HE.out]), rfl⟩
end Go.Proofs.YtkjjiinccljhjaaDoor

/- Helper contracts: IsValue of the program and of the model answer alike. Asked: the string is shorter than 2^63 bytes. Helper facts for the walks over tags: a struct of four cells in a block, append of one attribute at a step of a drawn region, and what TagOf answers, in plain words. No claim of its own. A valid tree stays valid when a token of a name is added; how many nodes there are then. No program. Builders of the call's own in memory: append to their rows of nodes and of numbers, boxes of two cells. Helper facts, no claim of its own. -/
import Derived.Test.YtpkicliimhflgaaGreatDoorMf4
import Derived.Test.YtpkicliimhflgaaGreatDoorMf5
import Derived.Test.YtpkicliimhflgaaGreatDoorMf6
import Derived.Deep.AppendLies
import Derived.Deep.RegionLaw
import Derived.Deep.RegionWith
import Derived.Test.YtpkicliimhflgaaGreatDoorMf3
namespace Go.Proofs.YtpkicliimhflgaaGreatDoor

open Go.ChangeShapes Go.WideShapes Go.ChangeAt Go.RowKit

def isVcI (c : Int) : Bool := decide ((97 ≤ c ∧ c ≤ 122) ∨ (48 ≤ c ∧ c ≤ 57) ∨ c = 47)
theorem vc_of {b : UInt8} : isVc b = isVcI (b.toNat : Int) := by
  unfold isVc isVcI
  exact decide_eq_decide.2 (by omega)
theorem vc_yes {c : Int} (h : (97 ≤ c ∧ c ≤ 122) ∨ (48 ≤ c ∧ c ≤ 57) ∨ c = 47) : isVcI c = true := decide_eq_true h
theorem vc_no {c : Int} (h : ¬ ((97 ≤ c ∧ c ≤ 122) ∨ (48 ≤ c ∧ c ≤ 57) ∨ c = 47)) : isVcI c = false := decide_eq_false h
/-- The first k bytes are those of a value. -/
def valTo (s : ByteArray) (k : Nat) : Prop := ∀ j (h : j < s.size), j < k → isVc s[j] = true
theorem valTo.zero (s : ByteArray) : valTo s 0 := fun _ _ h => absurd h (Nat.not_lt_zero _)
theorem valTo.succ {s : ByteArray} {k : Nat} (h : valTo s k) (hk : k < s.size) (h1 : isVcI (s[k].toNat : Int) = true) : valTo s (k + 1) := by
  intro j hj hjk
  by_cases e : j = k
  · subst e; rw [vc_of]; exact h1
  · exact h j hj (by omega)
theorem isVal_full {s : ByteArray} {k : Nat} (h : valTo s k) (hk : k = s.size) : isVal s = decide (1 ≤ s.size ∧ s.size ≤ 20) := by
  unfold isVal
  have : s.data.toList.all isVc = true := by
    rw [List.all_eq_true]
    intro b hb
    obtain ⟨j, hj⟩ := List.mem_iff_getElem?.1 hb
    have hjs : j < s.size := by
      have := (List.getElem?_eq_some_iff.1 hj).1
      rwa [Array.length_toList] at this
    rw [get_at hjs] at hj
    cases hj
    exact h j hjs (by omega)
  rw [this, Bool.and_true]
theorem isVal_bad {s : ByteArray} {k : Nat} (hk : k < s.size) (h : isVcI (s[k].toNat : Int) = false) : isVal s = false := by
  unfold isVal
  have : s.data.toList.all isVc = false := by
    rw [Bool.eq_false_iff]
    intro hall
    have := List.all_eq_true.1 hall s[k] (List.mem_iff_getElem?.2 ⟨k, get_at hk⟩)
    rw [vc_of, h] at this
    cases this
  rw [this, Bool.and_false]
theorem isVal_len {s : ByteArray} (h : ¬ (1 ≤ s.size ∧ s.size ≤ 20)) : isVal s = false := by
  unfold isVal; rw [decide_eq_false h, Bool.false_and]
theorem inB_size20 (s : ByteArray) : inB s.size 1 20 = decide (1 ≤ s.size ∧ s.size ≤ 20) := by
  unfold inB
  apply decide_eq_decide.2
  omega
theorem cls (c : Int) : c < 47 ∨ c = 47 ∨ (48 ≤ c ∧ c ≤ 57) ∨ (57 < c ∧ c < 97) ∨ (97 ≤ c ∧ c ≤ 122) ∨ 122 < c := by omega

set_option maxHeartbeats 1000000 in
theorem vb_any (c : Int) (w : World) :
    Calls Tryz.prog 207 #[.int .u8 c] w fun e w' => e = .returned (.bool (isVcI c)) ∧ w = w' := by
  rcases cls c with h | h | h | h | h | h
  · have HV := Lib.hid (vc_no (c := c) (by omega))
    have va : decide (c < 97) = true := decide_eq_true (by omega)
    have vb : decide (122 < c) = false := decide_eq_false (by omega)
    have vc : decide (c < 48) = true := decide_eq_true (by omega)
    have vd : decide (57 < c) = false := decide_eq_false (by omega)
    have ve : decide (97 ≤ c) = false := decide_eq_false (by omega)
    have vf : decide (c ≤ 122) = true := decide_eq_true (by omega)
    have vg : decide (48 ≤ c) = false := decide_eq_false (by omega)
    have vh : decide (c ≤ 57) = true := decide_eq_true (by omega)
    have vz : (c == 47) = false := beq_eq_false_iff_ne.2 (by omega)
    go_enter Tryz.func207, Tryz.ntmps207
    go_wp2
    go_ret
    exact ⟨ret_b HV.out.symm, rfl⟩
  · have HV := Lib.hid (vc_yes (c := c) (by omega))
    have va : decide (c < 97) = true := decide_eq_true (by omega)
    have vb : decide (122 < c) = false := decide_eq_false (by omega)
    have vc : decide (c < 48) = true := decide_eq_true (by omega)
    have vd : decide (57 < c) = false := decide_eq_false (by omega)
    have ve : decide (97 ≤ c) = false := decide_eq_false (by omega)
    have vf : decide (c ≤ 122) = true := decide_eq_true (by omega)
    have vg : decide (48 ≤ c) = false := decide_eq_false (by omega)
    have vh : decide (c ≤ 57) = true := decide_eq_true (by omega)
    have vz : (c == 47) = true := beq_iff_eq.2 (by omega)
    subst h
    go_enter Tryz.func207, Tryz.ntmps207
    go_wp2
    go_ret
    exact ⟨ret_b HV.out.symm, rfl⟩
  · have HV := Lib.hid (vc_yes (c := c) (by omega))
    have va : decide (c < 97) = true := decide_eq_true (by omega)
    have vb : decide (122 < c) = false := decide_eq_false (by omega)
    have vc : decide (c < 48) = false := decide_eq_false (by omega)
    have vd : decide (57 < c) = false := decide_eq_false (by omega)
    have ve : decide (97 ≤ c) = false := decide_eq_false (by omega)
    have vf : decide (c ≤ 122) = true := decide_eq_true (by omega)
    have vg : decide (48 ≤ c) = true := decide_eq_true (by omega)
    have vh : decide (c ≤ 57) = true := decide_eq_true (by omega)
    have vz : (c == 47) = false := beq_eq_false_iff_ne.2 (by omega)
    go_enter Tryz.func207, Tryz.ntmps207
    go_wp2
    go_ret
    exact ⟨ret_b HV.out.symm, rfl⟩
  · have HV := Lib.hid (vc_no (c := c) (by omega))
    have va : decide (c < 97) = true := decide_eq_true (by omega)
    have vb : decide (122 < c) = false := decide_eq_false (by omega)
    have vc : decide (c < 48) = false := decide_eq_false (by omega)
    have vd : decide (57 < c) = true := decide_eq_true (by omega)
    have ve : decide (97 ≤ c) = false := decide_eq_false (by omega)
    have vf : decide (c ≤ 122) = true := decide_eq_true (by omega)
    have vg : decide (48 ≤ c) = true := decide_eq_true (by omega)
    have vh : decide (c ≤ 57) = false := decide_eq_false (by omega)
    have vz : (c == 47) = false := beq_eq_false_iff_ne.2 (by omega)
    go_enter Tryz.func207, Tryz.ntmps207
    go_wp2
    go_ret
    exact ⟨ret_b HV.out.symm, rfl⟩
  · have HV := Lib.hid (vc_yes (c := c) (by omega))
    have va : decide (c < 97) = false := decide_eq_false (by omega)
    have vb : decide (122 < c) = false := decide_eq_false (by omega)
    have vc : decide (c < 48) = false := decide_eq_false (by omega)
    have vd : decide (57 < c) = true := decide_eq_true (by omega)
    have ve : decide (97 ≤ c) = true := decide_eq_true (by omega)
    have vf : decide (c ≤ 122) = true := decide_eq_true (by omega)
    have vg : decide (48 ≤ c) = true := decide_eq_true (by omega)
    have vh : decide (c ≤ 57) = false := decide_eq_false (by omega)
    have vz : (c == 47) = false := beq_eq_false_iff_ne.2 (by omega)
    go_enter Tryz.func207, Tryz.ntmps207
    go_wp2
    go_ret
    exact ⟨ret_b HV.out.symm, rfl⟩
  · have HV := Lib.hid (vc_no (c := c) (by omega))
    have va : decide (c < 97) = false := decide_eq_false (by omega)
    have vb : decide (122 < c) = true := decide_eq_true (by omega)
    have vc : decide (c < 48) = false := decide_eq_false (by omega)
    have vd : decide (57 < c) = true := decide_eq_true (by omega)
    have ve : decide (97 ≤ c) = true := decide_eq_true (by omega)
    have vf : decide (c ≤ 122) = false := decide_eq_false (by omega)
    have vg : decide (48 ≤ c) = true := decide_eq_true (by omega)
    have vh : decide (c ≤ 57) = false := decide_eq_false (by omega)
    have vz : (c == 47) = false := beq_eq_false_iff_ne.2 (by omega)
    go_enter Tryz.func207, Tryz.ntmps207
    go_wp2
    go_ret
    exact ⟨ret_b HV.out.symm, rfl⟩

set_option maxHeartbeats 1000000 in
theorem val_impl (s : ByteArray) (hs : s.size ≤ 9223372036854775807) (w : World) :
    Calls Tryz.prog 198 #[.string s] w fun e w' => e = .returned (.bool (isVal s)) ∧ w = w' := by
  by_cases hl : 1 ≤ (s.size : Int) ∧ (s.size : Int) ≤ 20
  · obtain ⟨hl1, hl2⟩ := hl
    have e1 : inB s.size 1 20 = true := inB_yes hl1 hl2
    go_enter Tryz.func198, Tryz.ntmps198
    go_wp2_with (go_at_call 120; refine (rin_any _ _ _ _).mono ?_; rintro e w' ⟨rfl, rfl⟩)
    go_loop [10] (fun i => ∃ (k : Nat), k ≤ s.size ∧ i = .int .i64 k ∧ valTo s k) (fun i => s.size - (intOf i).toNat)
    case atStart => exact ⟨0, Nat.zero_le _, rfl, valTo.zero s⟩
    case round =>
      obtain ⟨k, hk, rfl, hv⟩ := hrel
      have HV := Lib.hid hv; clear hv
      by_cases hlt : k < s.size
      · have hlt2 : decide ((k : Int) < (s.size : Int)) = true := by simp; omega
        have hb8 : (s[k].toNat : Int) < 256 := by have := UInt8.toNat_lt s[k]; omega
        cases hd : isVcI (s[k].toNat : Int) with
        | false =>
          have HN := Lib.hid (isVal_bad hlt hd)
          go_wp2_with (go_at_call 207; refine (vb_any _ _).mono ?_; rintro e w' ⟨rfl, rfl⟩)
          go_ret
          exact ⟨ret_b HN.out.symm, rfl⟩
        | true =>
          have HS := Lib.hid (HV.out.succ hlt hd)
          go_wp2_with (go_at_call 207; refine (vb_any _ _).mono ?_; rintro e w' ⟨rfl, rfl⟩)
          go_round
          case rel => exact ⟨k + 1, by omega, by go_num, HS.out⟩
          case measure => simp [intOf]; omega
      · have HN := Lib.hid (isVal_full HV.out (by omega))
        go_wp2
        go_ret
        exact ⟨ret_b (by rw [HN.out]; exact (decide_eq_true (by omega)).symm), rfl⟩
  · have e1 : inB s.size 1 20 = false := inB_no (by omega)
    have HN := Lib.hid (isVal_len (s := s) (by omega))
    go_enter Tryz.func198, Tryz.ntmps198
    go_wp2_with (go_at_call 120; refine (rin_any _ _ _ _).mono ?_; rintro e w' ⟨rfl, rfl⟩)
    go_ret
    exact ⟨ret_b HN.out.symm, rfl⟩

set_option maxRecDepth 100000 in
set_option maxHeartbeats 2000000 in
theorem val_spec (s : ByteArray) (hs : s.size ≤ 9223372036854775807) (w : World) :
    Calls Tryz.prog 172 #[.string s] w fun e w' => e = .returned (.bool (isVal s)) ∧ w = w' := by
  go_enter Tryz.func172, Tryz.ntmps172
  go_wp2
  go_loop [3] (fun i => ∃ (k : Nat), k ≤ s.size ∧ i = .int .i64 k ∧ valTo s k) (fun i => s.size - (intOf i).toNat)
  case atStart => exact ⟨0, Nat.zero_le _, rfl, valTo.zero s⟩
  case round =>
    obtain ⟨k, hk, rfl, hv⟩ := hrel
    have HV := Lib.hid hv; clear hv
    by_cases hlt : k < s.size
    · have hlt2 : decide ((k : Int) < (s.size : Int)) = true := by simp; omega
      have hb8 : (s[k].toNat : Int) < 256 := by have := UInt8.toNat_lt s[k]; omega
      rcases cls (s[k].toNat : Int) with h | h | h | h | h | h
      · have HN := Lib.hid (isVal_bad hlt (vc_no (by omega)))
        have va : decide ((s[k].toNat : Int) < 97) = true := decide_eq_true (by omega)
        have vb : decide (122 < (s[k].toNat : Int)) = false := decide_eq_false (by omega)
        have vc : decide ((s[k].toNat : Int) < 48) = true := decide_eq_true (by omega)
        have vd : decide (57 < (s[k].toNat : Int)) = false := decide_eq_false (by omega)
        have ve : decide (97 ≤ (s[k].toNat : Int)) = false := decide_eq_false (by omega)
        have vf : decide ((s[k].toNat : Int) ≤ 122) = true := decide_eq_true (by omega)
        have vg : decide (48 ≤ (s[k].toNat : Int)) = false := decide_eq_false (by omega)
        have vh : decide ((s[k].toNat : Int) ≤ 57) = true := decide_eq_true (by omega)
        have vz : ((s[k].toNat : Int) == 47) = false := beq_eq_false_iff_ne.2 (by omega)
        go_wp2
        go_ret
        exact ⟨ret_b HN.out.symm, rfl⟩
      · have HS := Lib.hid (HV.out.succ hlt (vc_yes (by omega)))
        have va : decide ((s[k].toNat : Int) < 97) = true := decide_eq_true (by omega)
        have vb : decide (122 < (s[k].toNat : Int)) = false := decide_eq_false (by omega)
        have vc : decide ((s[k].toNat : Int) < 48) = true := decide_eq_true (by omega)
        have vd : decide (57 < (s[k].toNat : Int)) = false := decide_eq_false (by omega)
        have ve : decide (97 ≤ (s[k].toNat : Int)) = false := decide_eq_false (by omega)
        have vf : decide ((s[k].toNat : Int) ≤ 122) = true := decide_eq_true (by omega)
        have vg : decide (48 ≤ (s[k].toNat : Int)) = false := decide_eq_false (by omega)
        have vh : decide ((s[k].toNat : Int) ≤ 57) = true := decide_eq_true (by omega)
        have vz : ((s[k].toNat : Int) == 47) = true := beq_iff_eq.2 (by omega)
        go_wp2
        go_round
        case rel => exact ⟨k + 1, by omega, by go_num, HS.out⟩
        case measure => simp [intOf]; omega
      · have HS := Lib.hid (HV.out.succ hlt (vc_yes (by omega)))
        have va : decide ((s[k].toNat : Int) < 97) = true := decide_eq_true (by omega)
        have vb : decide (122 < (s[k].toNat : Int)) = false := decide_eq_false (by omega)
        have vc : decide ((s[k].toNat : Int) < 48) = false := decide_eq_false (by omega)
        have vd : decide (57 < (s[k].toNat : Int)) = false := decide_eq_false (by omega)
        have ve : decide (97 ≤ (s[k].toNat : Int)) = false := decide_eq_false (by omega)
        have vf : decide ((s[k].toNat : Int) ≤ 122) = true := decide_eq_true (by omega)
        have vg : decide (48 ≤ (s[k].toNat : Int)) = true := decide_eq_true (by omega)
        have vh : decide ((s[k].toNat : Int) ≤ 57) = true := decide_eq_true (by omega)
        have vz : ((s[k].toNat : Int) == 47) = false := beq_eq_false_iff_ne.2 (by omega)
        go_wp2
        go_round
        case rel => exact ⟨k + 1, by omega, by go_num, HS.out⟩
        case measure => simp [intOf]; omega
      · have HN := Lib.hid (isVal_bad hlt (vc_no (by omega)))
        have va : decide ((s[k].toNat : Int) < 97) = true := decide_eq_true (by omega)
        have vb : decide (122 < (s[k].toNat : Int)) = false := decide_eq_false (by omega)
        have vc : decide ((s[k].toNat : Int) < 48) = false := decide_eq_false (by omega)
        have vd : decide (57 < (s[k].toNat : Int)) = true := decide_eq_true (by omega)
        have ve : decide (97 ≤ (s[k].toNat : Int)) = false := decide_eq_false (by omega)
        have vf : decide ((s[k].toNat : Int) ≤ 122) = true := decide_eq_true (by omega)
        have vg : decide (48 ≤ (s[k].toNat : Int)) = true := decide_eq_true (by omega)
        have vh : decide ((s[k].toNat : Int) ≤ 57) = false := decide_eq_false (by omega)
        have vz : ((s[k].toNat : Int) == 47) = false := beq_eq_false_iff_ne.2 (by omega)
        go_wp2
        go_ret
        exact ⟨ret_b HN.out.symm, rfl⟩
      · have HS := Lib.hid (HV.out.succ hlt (vc_yes (by omega)))
        have va : decide ((s[k].toNat : Int) < 97) = false := decide_eq_false (by omega)
        have vb : decide (122 < (s[k].toNat : Int)) = false := decide_eq_false (by omega)
        have vc : decide ((s[k].toNat : Int) < 48) = false := decide_eq_false (by omega)
        have vd : decide (57 < (s[k].toNat : Int)) = true := decide_eq_true (by omega)
        have ve : decide (97 ≤ (s[k].toNat : Int)) = true := decide_eq_true (by omega)
        have vf : decide ((s[k].toNat : Int) ≤ 122) = true := decide_eq_true (by omega)
        have vg : decide (48 ≤ (s[k].toNat : Int)) = true := decide_eq_true (by omega)
        have vh : decide ((s[k].toNat : Int) ≤ 57) = false := decide_eq_false (by omega)
        have vz : ((s[k].toNat : Int) == 47) = false := beq_eq_false_iff_ne.2 (by omega)
        go_wp2
        go_round
        case rel => exact ⟨k + 1, by omega, by go_num, HS.out⟩
        case measure => simp [intOf]; omega
      · have HN := Lib.hid (isVal_bad hlt (vc_no (by omega)))
        have va : decide ((s[k].toNat : Int) < 97) = false := decide_eq_false (by omega)
        have vb : decide (122 < (s[k].toNat : Int)) = true := decide_eq_true (by omega)
        have vc : decide ((s[k].toNat : Int) < 48) = false := decide_eq_false (by omega)
        have vd : decide (57 < (s[k].toNat : Int)) = true := decide_eq_true (by omega)
        have ve : decide (97 ≤ (s[k].toNat : Int)) = true := decide_eq_true (by omega)
        have vf : decide ((s[k].toNat : Int) ≤ 122) = false := decide_eq_false (by omega)
        have vg : decide (48 ≤ (s[k].toNat : Int)) = true := decide_eq_true (by omega)
        have vh : decide ((s[k].toNat : Int) ≤ 57) = false := decide_eq_false (by omega)
        have vz : ((s[k].toNat : Int) == 47) = false := beq_eq_false_iff_ne.2 (by omega)
        go_wp2
        go_ret
        exact ⟨ret_b HN.out.symm, rfl⟩
    · have HN := Lib.hid (isVal_full HV.out (by omega))
      have HE := Lib.hid (inB_size20 s)
      go_wp2_with fail
      refine (lin_any _ _ _ _).mono ?_
      rintro e w' ⟨rfl, rfl⟩
      go_wp2
      go_ret
      exact ⟨ret_b (by rw [HN.out, HE.out]), rfl⟩

end Go.Proofs.YtpkicliimhflgaaGreatDoor
namespace Go.Proofs.YtpkicliimhflgaaGreatDoor
open Go.ChangeShapes Go.WideShapes Go.ChangeAt Go.RowKit

theorem heap_four {w : World} {b : Nat} {x0 x1 x2 x3 : Value} {T : TypeId} (h : w.heap[b]? = some (.cells #[x0, x1, x2, x3] T (0, 0))) (u0 u1 u2 u3 : Value) :
    ((((w.setCell ⟨b, 0, none⟩ u0).setCell ⟨b, 1, none⟩ u1).setCell ⟨b, 2, none⟩ u2).setCell ⟨b, 3, none⟩ u3).heap[b]? = some (.cells #[u0, u1, u2, u3] T (0, 0)) := by
  have h0 := heap_one (o := 0) h u0
  have h1 := heap_one (o := 1) h0 u1
  have h2 := heap_one (o := 2) h1 u2
  have h3 := heap_one (o := 3) h2 u3
  rw [h3]; rfl
theorem cells_four {w : World} {b : Nat} {x0 x1 x2 x3 : Value} {T : TypeId} (h : w.heap[b]? = some (.cells #[x0, x1, x2, x3] T (0, 0))) :
    (w.cell? ⟨b, 0, none⟩ = some x0 ∧ w.cell? ⟨b, 1, none⟩ = some x1 ∧ w.cell? ⟨b, 2, none⟩ = some x2 ∧ w.cell? ⟨b, 3, none⟩ = some x3) ∧
    (w.frozen? ⟨b, 0, none⟩ = false ∧ w.frozen? ⟨b, 1, none⟩ = false ∧ w.frozen? ⟨b, 2, none⟩ = false ∧ w.frozen? ⟨b, 3, none⟩ = false) := by
  refine ⟨⟨?_, ?_, ?_, ?_⟩, ?_, ?_, ?_, ?_⟩
  · unfold World.cell?; rw [h]; rfl
  · unfold World.cell?; rw [h]; rfl
  · unfold World.cell?; rw [h]; rfl
  · unfold World.cell?; rw [h]; rfl
  · unfold World.frozen?; rw [h]; rfl
  · unfold World.frozen?; rw [h]; rfl
  · unfold World.frozen?; rw [h]; rfl
  · unfold World.frozen?; rw [h]; rfl
theorem below_four {B : Nat} {w w2 : World} (h : Below B w w2) {b : Nat} (hb : B ≤ b) (u0 u1 u2 u3 : Value) :
    Below B w ((((w2.setCell ⟨b, 0, none⟩ u0).setCell ⟨b, 1, none⟩ u1).setCell ⟨b, 2, none⟩ u2).setCell ⟨b, 3, none⟩ u3) :=
  (((h.setCell hb _).setCell hb _).setCell hb _).setCell hb _
theorem readsK_grown {α : Type} {enc : α → List Value} {k hi : Nat} {w : World} {v : Value} {xs : List α} (h : ReadsK enc k hi w v xs) (hh : hi ≤ w.heap.size) (n : Nat) (os : Array Obj) : ReadsK enc k hi (Sort.grow (w.drewN n) os) v xs := h.grw hh ⟨n, os, rfl⟩
theorem size_grown {hi : Nat} {w : World} (hh : hi ≤ w.heap.size) (n : Nat) (os : Array Obj) : hi ≤ (Sort.grow (w.drewN n) os).heap.size := by
  show hi ≤ (w.heap ++ os).size; simp; omega

/-- append of one attribute to a slice of the call's own, at a step of a region that draws its order. -/
theorem step_appAt {w : World} {ops : Array Oper} {o : Oper} {a : Act} {K : Act → World → Prop} {Q : Exit → Act → World → Prop} {E : Prop} (hgd : o.guard = none) (s x : Operand)
    (ho : o.op = .call { callee := .builtin .append, args := #[s, x], argTypes := #[115, 115] })
    (B : Nat) (w0 : World) (v : Value) (xs : List At) (hs : a.eval s = v) (hM : MineK encA 2 178 B w0 w v xs) (ad : Addr) (top : Nat) (y : At) (hx : a.eval x = .slice (some ad) 1 1) (hr : ReadsK encA 2 top w (.slice (some ad) 1 1) [y])
    (hlen : xs.length + 1 ≤ 137438953472)
    (h : ∀ v' w', MineK encA 2 178 B w0 w' v' (xs ++ [y]) → K (a.put o.dst v') w') :
    if Region.wanted o (yielded ops a.tmps) = true then Oper.wp Tryz.prog o a w K Q else E := by
  obtain ⟨i, hi, hz, hsize, hby⟩ := info_parts infoAt
  refine step_append_lies w hgd s x _ ho B _ i _ 2 32 Tryz.underlying115 hi hz hsize hby (by rfl) (by decide) v xs.length _ hs hM.row ad 1 1 ([y].flatMap encA) hx (flat_len encA_len [y]) (hr.news encA_len) ?_ (by omega) ?_ ?_ hM.size w.heap.size rfl ?_
  · intro u hu
    obtain ⟨z, _, hz⟩ := List.mem_flatMap.1 hu
    exact encA_one z u hz
  · unfold maxLen; omega
  · have : (xs.length + 1) * 32 ≤ (xs.length + 1) * 1024 := Nat.mul_le_mul_left _ (by omega)
    omega
  · intro g cap w' hown hgr _ _
    exact h _ w' (hM.grow (ys := [y]) hown hgr)
theorem readsA_one (w : World) (x y : ByteArray) : ReadsK encA 2 (w.heap.size + 1) (w.alloc (.cells #[.string x, .string y] 178)) (.slice (some ⟨w.heap.size, 0, none⟩) 1 1) [(x, y)] := readsK_one2 encA _ w rfl

/-- The token of a tag, or the zero token. -/
def tagT (s : ByteArray) : Tok := (tagB s.data.toList).getD tokZero
def tagOk (s : ByteArray) : Bool := (tagB s.data.toList).isSome
/-- What TagOf answers: the token, its attributes the call's own. -/
def TagOut (s : ByteArray) (w : World) (e : Ending) (w' : World) : Prop :=
  ∃ u : Sv, e = .returned (.tuple #[tokV (tagT s, u), .bool (tagOk s)]) ∧ OwnK encA 2 178 w.heap.size w'.heap.size w' (sv u) (tagT s).attrs ∧ Below w.heap.size w w'
abbrev zTok : Value := .agg #[.int .i64 0, .string ⟨#[]⟩, .slice none 0 0, .string ⟨#[]⟩]
theorem tagOut_none {s : ByteArray} {w w' : World} (h : tagB s.data.toList = none) (hb : Below w.heap.size w w') : TagOut s w (.returned (.tuple #[zTok, .bool false])) w' := by
  have e1 : tagT s = tokZero := by unfold tagT; rw [h]; rfl
  have e2 : tagOk s = false := by unfold tagOk; rw [h]; rfl
  exact ⟨svNil, by rw [e1, e2]; rfl, by rw [e1]; exact ownK_nil _ _ _ _ _ _, hb⟩
theorem tagOut_some {s : ByteArray} {w w' : World} {t : Tok} {u : Value} (h : tagB s.data.toList = some t) (ho : OwnK encA 2 178 w.heap.size w'.heap.size w' u t.attrs) (hb : Below w.heap.size w w') {v : Value} (hv : v = .agg #[.int .i64 t.kind, .string t.name, u, .string t.text]) : TagOut s w (.returned (.tuple #[v, .bool true])) w' := by
  have e1 : tagT s = t := by unfold tagT; rw [h]; rfl
  have e2 : tagOk s = true := by unfold tagOk; rw [h]; rfl
  obtain ⟨x, rfl⟩ := ho.sv
  subst hv
  exact ⟨x, by rw [e1, e2]; rfl, by rw [e1]; exact ho, hb⟩

theorem tag_long {s : ByteArray} (h : 60 < s.size) : tagB s.data.toList = none := tagB_long (by rw [size_list]; exact h)
theorem tag_close_yes {s : ByteArray} {r : List UInt8} (h : s.size ≤ 60) (hs : s.data.toList = 47 :: r) (hn : isNm (ofL r) = true) : tagB s.data.toList = some (tokClose (ofL r)) := by
  have : r.length < 60 := by rw [← size_list, hs] at h; simp at h; omega
  rw [hs, tagB_close this, if_pos hn]
theorem tag_close_no {s : ByteArray} {r : List UInt8} (h : s.size ≤ 60) (hs : s.data.toList = 47 :: r) (hn : isNm (ofL r) = false) : tagB s.data.toList = none := by
  have : r.length < 60 := by rw [← size_list, hs] at h; simp at h; omega
  rw [hs, tagB_close this, if_neg (by rw [hn]; exact Bool.false_ne_true)]
theorem tag_open_none {s : ByteArray} {n : List UInt8} {ps : List (List UInt8)} (h : s.size ≤ 60) (h0 : s.data.toList[0]? ≠ some 47) (hs : splitB 32 s.data.toList = n :: ps) (ha : attrsB ps [] = none) : tagB s.data.toList = none := by
  rw [tagB_open (by rw [size_list]; exact h) h0 hs, ha]
theorem tag_open_no {s : ByteArray} {n : List UInt8} {ps : List (List UInt8)} {ats : List At} (h : s.size ≤ 60) (h0 : s.data.toList[0]? ≠ some 47) (hs : splitB 32 s.data.toList = n :: ps) (ha : attrsB ps [] = some ats) (hn : isNm (ofL n) = false ∨ 4 < ats.length) : tagB s.data.toList = none := by
  rw [tagB_open (by rw [size_list]; exact h) h0 hs, ha]
  refine if_neg fun hc => ?_
  rcases hn with hn | hn
  · rw [hn] at hc; exact Bool.false_ne_true hc.1
  · omega
theorem tag_open_yes {s : ByteArray} {n : List UInt8} {ps : List (List UInt8)} {ats : List At} (h : s.size ≤ 60) (h0 : s.data.toList[0]? ≠ some 47) (hs : splitB 32 s.data.toList = n :: ps) (ha : attrsB ps [] = some ats) (hn : isNm (ofL n) = true) (hl : ats.length ≤ 4) : tagB s.data.toList = some (tokOpen (ofL n) ats) := by
  rw [tagB_open (by rw [size_list]; exact h) h0 hs, ha]
  exact if_pos ⟨hn, hl⟩
/-- The attributes behind the first m pieces, those of which are taken. -/
def attTo (ps : List (List UInt8)) (m : Nat) (acc : List At) : Prop := attrsB ps [] = attrsB (ps.drop m) acc
theorem attTo.zero (ps : List (List UInt8)) : attTo ps 0 [] := by unfold attTo; rw [List.drop_zero]
theorem dropL_at {α : Type} {l : List α} {k : Nat} {a : α} (h : l[k]? = some a) : l.drop k = a :: l.drop (k + 1) := by
  have hk := (List.getElem?_eq_some_iff.1 h).1
  rw [List.drop_eq_getElem_cons hk, show l[k] = a from Option.some.inj ((List.getElem?_eq_getElem hk).symm.trans h)]
theorem attTo.bad {ps : List (List UInt8)} {m : Nat} {acc : List At} {p : List UInt8} (h : attTo ps m acc) (hp : ps[m]? = some p) (hb : attrB p = none) : attrsB ps [] = none := by
  unfold attTo at h; rw [h, dropL_at hp, attrsB, hb]
theorem attTo.twice {ps : List (List UInt8)} {m : Nat} {acc : List At} {p : List UInt8} {a : At} (h : attTo ps m acc) (hp : ps[m]? = some p) (hb : attrB p = some a) {v : ByteArray} (hf : findA acc a.1 = some v) : attrsB ps [] = none := by
  unfold attTo at h; rw [h, dropL_at hp, attrsB, hb]
  simp only
  rw [hf]; rfl
theorem attTo.succ {ps : List (List UInt8)} {m : Nat} {acc : List At} {p : List UInt8} {a : At} (h : attTo ps m acc) (hp : ps[m]? = some p) (hb : attrB p = some a) (hf : findA acc a.1 = none) : attTo ps (m + 1) (acc ++ [a]) := by
  unfold attTo at h ⊢; rw [h, dropL_at hp, attrsB, hb]
  simp only
  rw [hf]; rfl
theorem attTo.full {ps : List (List UInt8)} {m : Nat} {acc : List At} (h : attTo ps m acc) (hm : ps.length ≤ m) : attrsB ps [] = some acc := by
  unfold attTo at h; rw [h, List.drop_of_length_le hm, attrsB]
theorem attrB_len {p : List UInt8} (h : (splitB 61 p).length ≠ 2) : attrB p = none := by
  unfold attrB
  split
  · rename_i k v hs; rw [hs] at h; exact absurd rfl h
  · rfl
theorem attrB_yes {p k v : List UInt8} (h : splitB 61 p = [k, v]) (h1 : isNm (ofL k) = true) (h2 : isVal (ofL v) = true) : attrB p = some (ofL k, ofL v) := by
  unfold attrB; rw [h]; simp only; rw [if_pos ⟨h1, h2⟩]
theorem attrB_no {p k v : List UInt8} (h : splitB 61 p = [k, v]) (hn : isNm (ofL k) = false ∨ isVal (ofL v) = false) : attrB p = none := by
  unfold attrB; rw [h]; simp only
  refine if_neg fun hc => ?_
  rcases hn with hn | hn
  · rw [hn] at hc; exact Bool.false_ne_true hc.1
  · rw [hn] at hc; exact Bool.false_ne_true hc.2
theorem first_slash {s : ByteArray} (h : s.data.toList[0]? = some 47) : ∃ r, s.data.toList = 47 :: r := by
  cases hl : s.data.toList with
  | nil => rw [hl] at h; simp at h
  | cons b l => rw [hl] at h; simp at h; subst h; exact ⟨l, rfl⟩
theorem OwnK.slice {α : Type} {enc : α → List Value} {k : Nat} {e : TypeId} {lo hi : Nat} {w : World} {v : Value} {xs : List α} (h : OwnK enc k e lo hi w v xs) : ∃ a c, v = .slice a xs.length c := by
  rcases h.1.2 with ⟨rfl, h0⟩ | ⟨g, cap, cur, rfl, _⟩
  · exact ⟨none, 0, by rw [h0]⟩
  · exact ⟨_, _, rfl⟩
theorem OwnK.slice' {α : Type} {enc : α → List Value} {k : Nat} {e : TypeId} {lo hi : Nat} {w : World} {v : Value} {xs : List α} (h : OwnK enc k e lo hi w v xs) : ∃ a n c, v = .slice a n c := by
  obtain ⟨a, c, e⟩ := h.slice
  exact ⟨a, _, c, e⟩
theorem OwnK.strAt {lo hi : Nat} {w : World} {v : Value} {xs : List ByteArray} (h : OwnK encS 1 9 lo hi w v xs) (h0 : 0 < xs.length) :
    ∃ g cap, v = .slice (some ⟨g, 0, none⟩) xs.length cap ∧ lo ≤ g ∧ g < hi ∧ g < w.heap.size ∧ xs.length ≤ cap ∧ cap ≤ 9223372036854775807 ∧ ∀ (j : Nat) x, xs[j]? = some x → w.cell? ⟨g, j, none⟩ = some (.string x) := by
  have hr := h.reads encS_len
  have h1 := h.1
  rcases h1.2 with ⟨_, hz⟩ | ⟨g, cap, cur, rfl, hg, hh, hc, hm, _⟩
  · omega
  · refine ⟨g, cap, rfl, hg, h.2 g rfl, heap_lt hh, hc, by unfold maxLen at hm; omega, fun j x hj => ?_⟩
    have := hr.news encS_len j (.string x) (by
      have := flat_at encS_len hj (show 0 < 1 by decide)
      simpa [encS] using this)
    rwa [add_off, Nat.zero_add] at this
theorem OwnK.strCell {lo hi g n cap j : Nat} {w : World} {xs : List ByteArray} {x : ByteArray} (h : OwnK encS 1 9 lo hi w (.slice (some ⟨g, 0, none⟩) n cap) xs) (hx : xs[j]? = some x) : w.cell? ⟨g, j, none⟩ = some (.string x) := by
  have e : n = xs.length := by
    obtain ⟨a, c, e, _⟩ := h.reads encS_len
    injection e
  subst e
  have := (h.reads encS_len).news encS_len j (.string x) (by
    have := flat_at encS_len hx (show 0 < 1 by decide)
    simpa [encS] using this)
  rwa [add_off, Nat.zero_add] at this
theorem split_two {c : UInt8} {l : List UInt8} (h : (splS c l).length = 2) : ∃ k v, splitB c l = [k, v] ∧ splS c l = [ofL k, ofL v] := by
  unfold splS at h ⊢
  rw [List.length_map] at h
  match hs : splitB c l, h with
  | [k, v], _ => exact ⟨k, v, rfl, rfl⟩
theorem ownK_below {α : Type} {enc : α → List Value} {k : Nat} {e : TypeId} {lo hi B : Nat} {w w' : World} {v : Value} {xs : List α} (h : OwnK enc k e lo hi w v xs) (hb : Below B w w') (hB : hi ≤ B) : OwnK enc k e lo hi w' v xs := by
  refine ⟨⟨h.1.1, ?_⟩, h.2⟩
  rcases h.1.2 with h1 | ⟨g, cap, cur, h1, h2, h3, h4⟩
  · exact Or.inl h1
  · have hg := h.2 g (by rw [h1]; rfl)
    exact Or.inr ⟨g, cap, cur, h1, h2, by rw [hb.block g (by omega)]; exact h3, h4⟩
theorem ownK_set {α : Type} {enc : α → List Value} {k : Nat} {e : TypeId} {lo hi b o : Nat} {w : World} {v u : Value} {xs : List α} (h : OwnK enc k e lo hi w v xs) (hb : b < lo) : OwnK enc k e lo hi (w.setCell ⟨b, o, none⟩ u) v xs := by
  refine ⟨⟨h.1.1, ?_⟩, h.2⟩
  rcases h.1.2 with h1 | ⟨g, cap, cur, h1, h2, h3, h4⟩
  · exact Or.inl h1
  · exact Or.inr ⟨g, cap, cur, h1, h2, by rw [Below.heap_setCell _ _ _ _ (show g ≠ b by omega)]; exact h3, h4⟩
theorem ownK_set4 {α : Type} {enc : α → List Value} {k : Nat} {e : TypeId} {lo lo' hi b : Nat} {w : World} {v : Value} {xs : List α} (h : OwnK enc k e lo hi w v xs) (hb : b < lo) (hl : lo' ≤ lo) (hh : hi ≤ w.heap.size) (u0 u1 u2 u3 : Value) :
    OwnK enc k e lo' ((((w.setCell ⟨b, 0, none⟩ u0).setCell ⟨b, 1, none⟩ u1).setCell ⟨b, 2, none⟩ u2).setCell ⟨b, 3, none⟩ u3).heap.size ((((w.setCell ⟨b, 0, none⟩ u0).setCell ⟨b, 1, none⟩ u1).setCell ⟨b, 2, none⟩ u2).setCell ⟨b, 3, none⟩ u3) v xs :=
  (ownK_set (ownK_set (ownK_set (ownK_set h hb) hb) hb) hb).mono hl (Nat.le_trans hh (Nat.le_trans (size_set _ _ _) (Nat.le_trans (size_set _ _ _) (Nat.le_trans (size_set _ _ _) (size_set _ _ _)))))
theorem splS_pos (c : UInt8) (l : List UInt8) : 0 < (splS c l).length := by
  unfold splS; rw [List.length_map]
  cases h : splitB c l with
  | nil => exact absurd h (splitB_ne _ _)
  | cons a b => simp

end Go.Proofs.YtpkicliimhflgaaGreatDoor
namespace Go.Proofs.YtpkicliimhflgaaGreatDoor
theorem isBd_iff {b : Bd} : isBd b = true ↔ (1 ≤ b.nodes.length ∧ b.nodes.length ≤ 40) ∧ okRoot b.nodes = true ∧ (∀ i, 1 ≤ i → i < b.nodes.length → okNode b.nodes i = true) ∧ (1 ≤ b.opn.length ∧ b.opn.length ≤ 8) ∧ b.opn.getD 0 0 = 0 ∧ (∀ i, 1 ≤ i → i < b.opn.length → okOpen b i = true) := by
  unfold isBd
  simp only [Bool.and_eq_true, decide_eq_true_eq, allFrom_iff, and_assoc]
theorem isNm_pos {s : ByteArray} (h : isNm s = true) : 1 ≤ s.size := by
  unfold isNm at h
  have := (Bool.and_eq_true _ _ ▸ h : _ ∧ _).1
  have := of_decide_eq_true this
  exact this.1
theorem canOpen_lt {ns : List Nd} {z : Int} (h : canOpen ns z = true) : 0 ≤ z ∧ z.toNat < ns.length := by
  unfold canOpen at h
  rw [Bool.and_eq_true] at h
  refine ⟨of_decide_eq_true h.1, ?_⟩
  cases e : ns[z.toNat]? with
  | none => rw [e] at h; exact absurd h.2 (by simp)
  | some x => exact (List.getElem?_eq_some_iff.1 e).1
theorem canOpen_app {ns : List Nd} {z : Int} (xs : List Nd) (h : canOpen ns z = true) : canOpen (ns ++ xs) z = true := by
  have hl := (canOpen_lt h).2
  unfold canOpen at h ⊢
  rw [List.getElem?_append_left hl]; exact h
theorem okNode_app {ns : List Nd} {i : Nat} (xs : List Nd) (h : okNode ns i = true) (hi : i < ns.length) : okNode (ns ++ xs) i = true := by
  unfold okNode at h ⊢
  rw [List.getElem?_append_left hi]
  cases e : ns[i]? with
  | none => rw [e] at h; exact absurd h (by simp)
  | some x =>
    rw [e] at h
    simp only [Bool.and_eq_true] at h ⊢
    exact ⟨⟨h.1.1, canOpen_app xs h.1.2⟩, h.2⟩
theorem okRoot_app {ns : List Nd} (xs : List Nd) (h : okRoot ns = true) (hi : 0 < ns.length) : okRoot (ns ++ xs) = true := by
  unfold okRoot at h ⊢
  rw [List.getElem?_append_left hi]; exact h
theorem parentOf_app {ns : List Nd} {z : Int} (xs : List Nd) (hi : z.toNat < ns.length) : parentOf (ns ++ xs) z = parentOf ns z := by
  unfold parentOf; rw [List.getElem?_append_left hi]
theorem getD_app {xs ys : List Int} {i : Nat} (h : i < xs.length) : (xs ++ ys).getD i 0 = xs.getD i 0 := by
  rw [List.getD_eq_getElem?_getD, List.getD_eq_getElem?_getD, List.getElem?_append_left h]
theorem getD_take {xs : List Int} {i m : Nat} (h : i < m) : (xs.take m).getD i 0 = xs.getD i 0 := by
  rw [List.getD_eq_getElem?_getD, List.getD_eq_getElem?_getD, List.getElem?_take, if_pos h]
theorem okOpen_app {b : Bd} {i : Nat} (xs : List Nd) (ys : List Int) (h : okOpen b i = true) (hi : i < b.opn.length) : okOpen ⟨b.nodes ++ xs, b.opn ++ ys⟩ i = true := by
  unfold okOpen at h ⊢
  simp only [Bool.and_eq_true, decide_eq_true_eq] at h ⊢
  have hl := (canOpen_lt h.1.1).2
  rw [getD_app hi, getD_app (show i - 1 < b.opn.length by omega), parentOf_app xs hl]
  exact ⟨⟨canOpen_app xs h.1.1, h.1.2⟩, h.2⟩
theorem okOpen_take {b : Bd} {i m : Nat} (h : okOpen b i = true) (hi : i < m) : okOpen ⟨b.nodes, b.opn.take m⟩ i = true := by
  unfold okOpen at h ⊢
  simp only at h ⊢
  rw [getD_take hi, getD_take (show i - 1 < m by omega)]; exact h
theorem closeN_in (b : Bd) (s : ByteArray) : ∀ k, closeN b s k = b.opn.length ∨ 1 ≤ closeN b s k ∧ closeN b s k ≤ k
  | 0 => Or.inl rfl
  | k + 1 => by
    rw [closeN]; split
    · right; omega
    · rcases closeN_in b s k with h | h
      · exact Or.inl h
      · right; omega
theorem okRoot_open {ns : List Nd} (h : okRoot ns = true) : canOpen ns 0 = true := by
  unfold okRoot at h
  unfold canOpen
  cases e : ns[0]? with
  | none => rw [e] at h; exact absurd h (by simp)
  | some x =>
    rw [e] at h
    simp only [Bool.and_eq_true, decide_eq_true_eq] at h
    have h1 : x.name.toList = [112, 97, 103, 101] := by simpa using h.1.1.1
    have h2 : x.name.size ≠ 0 := by
      intro e0
      rw [ByteArray.toList_eq] at h1
      have : x.name.data.toList.length = 0 := by rw [Array.length_toList]; exact e0
      rw [h1] at this; cases this
    show (decide (0 ≤ (0 : Int)) && match ns[0]? with | some x => decide (x.name.size ≠ 0) && !isVoid x.name | none => false) = true
    rw [e]
    unfold isVoid
    dsimp only
    rw [h1, decide_eq_true h2]; rfl
theorem last_open {b : Bd} (h : isBd b = true) : canOpen b.nodes (lastOpen b) = true := by
  obtain ⟨_, hr, _, ho, h0, hop⟩ := isBd_iff.1 h
  unfold lastOpen
  by_cases e : b.opn.length = 1
  · rw [e, h0]; exact okRoot_open hr
  · have := hop (b.opn.length - 1) (by omega) (by omega)
    unfold okOpen at this
    simp only [Bool.and_eq_true] at this
    exact this.1.1
theorem node_new (ns : List Nd) (x : Nd) (h : canOpen ns x.parent = true) (hx : (if x.name.size = 0 then decide (x.text.size ≠ 0) && decide (x.attrs = []) else isNm x.name && decide (x.text.size = 0)) = true) : okNode (ns ++ [x]) ns.length = true := by
  unfold okNode
  rw [List.getElem?_append_right (Nat.le_refl _), Nat.sub_self]
  have hl := canOpen_lt h
  simp only [List.getElem?_cons_zero, Bool.and_eq_true, decide_eq_true_eq]
  exact ⟨⟨by omega, canOpen_app _ h⟩, hx⟩
theorem isBd_push {b : Bd} {x : Nd} (h : isBd b = true) (hn : b.nodes.length < 40) (hp : x.parent = lastOpen b) (hx : (if x.name.size = 0 then decide (x.text.size ≠ 0) && decide (x.attrs = []) else isNm x.name && decide (x.text.size = 0)) = true) : isBd ⟨b.nodes ++ [x], b.opn⟩ = true := by
  have hl := last_open h
  obtain ⟨h1, hr, hno, ho, h0, hop⟩ := isBd_iff.1 h
  refine isBd_iff.2 ⟨by simp only [List.length_append, List.length_cons, List.length_nil]; omega, okRoot_app _ hr (by omega), fun i hi1 hi2 => ?_, ho, h0, fun i hi1 hi2 => ?_⟩
  · simp only [List.length_append, List.length_cons, List.length_nil] at hi2
    by_cases e : i = b.nodes.length
    · rw [e]; exact node_new _ x (hp ▸ hl) hx
    · exact okNode_app _ (hno i hi1 (by omega)) (by omega)
  · have := okOpen_app [x] [] (hop i hi1 hi2) hi2
    rwa [List.append_nil] at this
theorem isBd_open {b : Bd} {x : Nd} (h : isBd b = true) (hn : b.nodes.length < 40) (ho8 : b.opn.length < 8) (hp : x.parent = lastOpen b) (hv : isVoid x.name = false) (hnm : isNm x.name = true) (ht : x.text.size = 0) : isBd ⟨b.nodes ++ [x], b.opn ++ [(b.nodes.length : Int)]⟩ = true := by
  have hs : ¬ x.name.size = 0 := by have := isNm_pos hnm; omega
  have h' := isBd_push h hn hp (by rw [if_neg hs, hnm, decide_eq_true ht]; rfl)
  have hl := last_open h
  obtain ⟨h1, hr, hno, ho, h0, hop⟩ := isBd_iff.1 h'
  obtain ⟨_, _, _, ho', _, hop'⟩ := isBd_iff.1 h
  refine isBd_iff.2 ⟨h1, hr, hno, by simp only [List.length_append, List.length_cons, List.length_nil]; omega, by rw [getD_app (by omega)]; exact h0, fun i hi1 hi2 => ?_⟩
  simp only [List.length_append, List.length_cons, List.length_nil] at hi2
  by_cases e : i = b.opn.length
  · subst e
    have eN : (b.opn ++ [(b.nodes.length : Int)]).getD b.opn.length 0 = (b.nodes.length : Int) := by
      rw [List.getD_eq_getElem?_getD, List.getElem?_append_right (Nat.le_refl _), Nat.sub_self]; rfl
    unfold okOpen
    simp only [Bool.and_eq_true, decide_eq_true_eq]
    rw [eN, getD_app (by omega)]
    have hx : (b.nodes ++ [x])[((b.nodes.length : Int)).toNat]? = some x := by
      rw [Int.toNat_natCast, List.getElem?_append_right (Nat.le_refl _), Nat.sub_self]; rfl
    refine ⟨⟨?_, by have := (isBd_iff.1 h).1; omega⟩, ?_⟩
    · unfold canOpen
      rw [hx]
      simp only [Bool.and_eq_true, decide_eq_true_eq, Bool.not_eq_true']
      exact ⟨by omega, hs, hv⟩
    · unfold parentOf
      rw [hx]
      show x.parent = _
      rw [hp]; rfl
  · exact okOpen_app [x] [(b.nodes.length : Int)] (hop' i hi1 (by omega)) (by omega)
theorem isBd_close {b : Bd} (h : isBd b = true) (s : ByteArray) : isBd (closeB b s) = true := by
  obtain ⟨h1, hr, hno, ho, h0, hop⟩ := isBd_iff.1 h
  unfold closeB
  have hc : 1 ≤ closeN b s (b.opn.length - 1) ∧ closeN b s (b.opn.length - 1) ≤ b.opn.length := by
    rcases closeN_in b s (b.opn.length - 1) with e | e <;> omega
  refine isBd_iff.2 ⟨h1, hr, hno, by simp only [List.length_take]; omega, by rw [getD_take (by omega)]; exact h0, fun i hi1 hi2 => ?_⟩
  simp only [List.length_take] at hi2
  exact okOpen_take (hop i hi1 (by omega)) (by omega)
theorem isBd_add {b : Bd} (h : isBd b = true) (t : Tok) (ht : t.kind ≠ 1 ∨ isNm t.name = true) : isBd (addTok b t).1 = true := by
  have hb := isBd_iff.1 h
  unfold addTok openB textB
  split
  · rename_i hk
    have hnm : isNm t.name = true := by rcases ht with h1 | h1; exact absurd hk h1; exact h1
    split
    · exact h
    · rename_i h8
      split
      · exact h
      · rename_i hroom
        have hroom' : roomB b = true := by cases e : roomB b; exact absurd e hroom; rfl
        unfold roomB at hroom'
        simp only [Bool.and_eq_true, decide_eq_true_eq] at hroom'
        have hs : ¬ t.name.size = 0 := by have := isNm_pos hnm; omega
        by_cases hv : isVoid t.name = false
        · rw [if_pos hv]
          exact isBd_open (x := ⟨t.name, ⟨#[]⟩, lastOpen b, t.attrs⟩) h hroom'.1 (by rcases Nat.lt_or_ge b.opn.length 8 with h1 | h1; exact h1; exact absurd ⟨hv, h1⟩ h8) rfl hv hnm rfl
        · rw [if_neg hv]
          exact isBd_push (x := ⟨t.name, ⟨#[]⟩, lastOpen b, t.attrs⟩) h hroom'.1 rfl (by show (if t.name.size = 0 then _ else _) = true; rw [if_neg hs, hnm]; rfl)
  · split
    · exact isBd_close h _
    · split
      · split
        · exact h
        · rename_i hr
          have hroom : roomB b = true := by cases e : roomB b; exact absurd (Or.inr e) hr; rfl
          have htx : t.text.size ≠ 0 := fun e => hr (Or.inl e)
          unfold roomB at hroom
          simp only [Bool.and_eq_true, decide_eq_true_eq] at hroom
          exact isBd_push (x := ⟨⟨#[]⟩, t.text, lastOpen b, []⟩) h hroom.1 rfl (by show (if (0 : Nat) = 0 then _ else _) = true; rw [if_pos rfl, decide_eq_true htx]; rfl)
      · exact h
/-- Which number a token's node gets, and how many nodes there are then. -/
theorem addTok_num (b : Bd) (t : Tok) : (addTok b t).2 = (b.nodes.length : Int) ∧ (addTok b t).1.nodes.length = b.nodes.length + 1 ∨ (addTok b t).2 = -1 ∧ (addTok b t).1.nodes.length = b.nodes.length := by
  unfold addTok openB textB closeB
  split
  · split
    · exact Or.inr ⟨rfl, rfl⟩
    · split
      · exact Or.inr ⟨rfl, rfl⟩
      · exact Or.inl ⟨rfl, by simp⟩
  · split
    · exact Or.inr ⟨rfl, rfl⟩
    · split
      · split
        · exact Or.inr ⟨rfl, rfl⟩
        · exact Or.inl ⟨rfl, by simp⟩
      · exact Or.inr ⟨rfl, rfl⟩
theorem addToks_num : ∀ (ts : List Tok) (b : Bd), (addToks b ts).nodes.length ≤ b.nodes.length + ts.length
  | [], b => Nat.le_refl _
  | t :: ts, b => by
    have h := addToks_num ts (addTok b t).1
    rw [addToks, List.length_cons]
    rcases addTok_num b t with ⟨_, e⟩ | ⟨_, e⟩ <;> omega

end Go.Proofs.YtpkicliimhflgaaGreatDoor
namespace Go.Proofs.YtpkicliimhflgaaGreatDoor
open Go.ChangeShapes Go.WideShapes Go.ChangeAt Go.RowKit

/-- Blocks of other types than this are kept. -/
def KeepT (e : TypeId) (w w' : World) : Prop := ∀ (b : Nat) (cs : Array Value) (T : TypeId), T ≠ e → w.heap[b]? = some (.cells cs T (0, 0)) → w'.heap[b]? = some (.cells cs T (0, 0))
theorem keep_of {w w' : World} {B k n : Nat} {e : TypeId} {v : Value} {xs : List Value} (h : w.ownsRow B e k v n xs) (hg : w.grownBy w' v.ownBlock) : KeepT e w w' :=
  fun b _ _ hT hb => (hg.block b (heap_lt hb) (row_ne_box h hb hT.symm)).trans hb
theorem grown_refl (w : World) (r : Option Nat) : w.grownBy w r := ⟨rfl, rfl, rfl, Nat.le_refl _, fun _ _ _ => rfl⟩
theorem infoInt : (Tryz.prog.info? 3).map (fun i => (i.zero, i.size, i.bytes)) = some (some (.int .i64 0), 1, 8) := by kernel_rfl
theorem int_ne : 3 ≠ 178 ∧ 3 ≠ 117 ∧ 178 ≠ 117 := by decide

/-- append to nodes of the call's own; what else is written is told. -/
theorem wpList_appNG {w : World} {ops : Array Oper} {rest : List Oper} {o : Oper} {a : Act} {Q : Exit → Act → World → Prop} (hgd : o.guard = none) (s x : Operand)
    (ho : o.op = .call { callee := .builtin .append, args := #[s, x], argTypes := #[38, 38] })
    (B : Nat) (w0 : World) (v : Value) (ts : List Nv) (hs : a.eval s = v) (hM : MineN B w0 w v ts) (vx : Value) (top : Nat) (us : List Nv) (hx : a.eval x = vx) (hr : ReadsK encN 4 top w vx us)
    (hin : ∀ p ∈ us, OwnK encA 2 178 B w.heap.size w (sv p.2) p.1.attrs) (hnd : (insN ts ++ insN us).Nodup)
    (hlen : ts.length + us.length ≤ 137438953472)
    (h : ∀ v' w', MineN B w0 w' v' (ts ++ us) → w.grownBy w' v.ownBlock → wpList Tryz.prog ops Q rest (a.put o.dst v') w') : wpList Tryz.prog ops Q (o :: rest) a w := by
  obtain ⟨i, hi, hz, hsize, hby⟩ := info_parts infoNd
  obtain ⟨ad, cap, rfl, h1, h2, h3, h4⟩ := id hr
  cases ad with
  | none =>
    obtain ⟨rfl, _, rfl⟩ := hr.nil
    refine wpList_append_own_none hgd s x _ ho B _ i 4 Tryz.underlying38 hi v ts.length _ hs hM.row.row hx ?_
    exact h v w (by simpa using hM) (grown_refl _ _)
  | some ad =>
    refine wpList_append_own _ hgd s x _ ho B _ i _ 4 64 Tryz.underlying38 hi hz hsize hby (by rfl) (by decide) v ts.length _ hs hM.row.row ad us.length cap (us.flatMap encN) hx (flat_len encN_len us) (hr.news encN_len) ?_ ?_ ?_ hM.row.size ?_
    · intro u hu
      obtain ⟨y, _, hy⟩ := List.mem_flatMap.1 hu
      exact encN_one y u hy
    · unfold maxLen; omega
    · have : (ts.length + us.length) * 64 ≤ (ts.length + us.length) * 1024 := Nat.mul_le_mul_left _ (by omega)
      omega
    · intro v' w' hown hgr hn
      refine h v' w' ⟨hM.row.grow hown hgr, fun p hp => ?_, by rw [insN_append]; exact hnd⟩ hgr
      have hall : OwnK encA 2 178 B w.heap.size w (sv p.2) p.1.attrs := by
        rcases List.mem_append.1 hp with h | h
        · exact hM.inn p h
        · exact hin p h
      refine ⟨hall.1.kept hgr ?_, fun g hg => Nat.lt_of_lt_of_le (hall.2 g hg) hgr.size⟩
      cases hv : (sv p.2).ownBlock with
      | none => exact Or.inl rfl
      | some g =>
        right
        intro e
        exact rows_ne hM.row.row hall.1 nd_ne_at e.symm hv
/-- append to numbers of the call's own; what else is written is told. -/
theorem wpList_appIG {w : World} {ops : Array Oper} {rest : List Oper} {o : Oper} {a : Act} {Q : Exit → Act → World → Prop} (hgd : o.guard = none) (s x : Operand)
    (ho : o.op = .call { callee := .builtin .append, args := #[s, x], argTypes := #[39, 39] })
    (B : Nat) (w0 : World) (v : Value) (zs : List Int) (hs : a.eval s = v) (hM : Mine .i64 3 B w0 w v zs) (vx : Value) (top : Nat) (ys : List Int) (hx : a.eval x = vx) (hr : Reads .i64 top w vx ys)
    (hlen : zs.length + ys.length ≤ 17592186044416)
    (h : ∀ v' w', Mine .i64 3 B w0 w' v' (zs ++ ys) → w.grownBy w' v.ownBlock → wpList Tryz.prog ops Q rest (a.put o.dst v') w') : wpList Tryz.prog ops Q (o :: rest) a w := by
  obtain ⟨i, hi, hz, hsize, hby⟩ := info_parts infoInt
  obtain ⟨ad, cap, rfl, h1, h2, h3, h4⟩ := id hr
  cases ad with
  | none =>
    obtain ⟨rfl, _, rfl⟩ := hr.nil
    refine wpList_append_own_none hgd s x _ ho B _ i 1 Tryz.underlying39 hi v zs.length _ hs hM.row hx ?_
    exact h v w (by simpa using hM) (grown_refl _ _)
  | some ad =>
    refine wpList_append_own _ hgd s x _ ho B _ i _ 1 8 Tryz.underlying39 hi hz hsize hby (by rfl) (by decide) v zs.length _ hs hM.row ad ys.length cap (ys.map (.int .i64)) hx (by simp) hr.news (nums_oneCell _ _) ?_ ?_ hM.size ?_
    · unfold maxLen; omega
    · omega
    · intro v' w' hown hgr _
      exact h v' w' (hM.grow hown hgr) hgr

/-- A builder of the call's own, its nodes with the places of their attributes. -/
structure BdM (B : Nat) (w0 w : World) (nv ov : Value) (ns : List Nv) (zs : List Int) : Prop where
  n : MineN B w0 w nv ns
  o : Mine .i64 3 B w0 w ov zs
theorem BdM.at {B : Nat} {w0 w : World} {nv ov : Value} {ns : List Nv} {b : Bd} (h : BdM B w0 w nv ov ns b.opn) (hn : ns.map Prod.fst = b.nodes) : BdAt B w0 w nv ov b := ⟨ns, hn, h.n, h.o⟩
theorem BdM.later {B : Nat} {w0 w w' : World} {nv ov : Value} {ns : List Nv} {zs : List Int} (h : BdM B w0 w nv ov ns zs) (hb : Below w.heap.size w w') : BdM B w0 w' nv ov ns zs := ⟨h.n.later hb, h.o.later hb⟩
theorem BdM.setT {B c o : Nat} {w0 w : World} {nv ov u : Value} {ns : List Nv} {zs : List Int} {cs : Array Value} (h : BdM B w0 w nv ov ns zs) (hb : w.heap[c]? = some (.cells cs 41 (0, 0))) (hB : B ≤ c) : BdM B w0 (w.setCell ⟨c, o, none⟩ u) nv ov ns zs := ⟨h.n.setT hb hB, mine_setT h.o hb hB⟩
theorem kept_ne {w : World} {B B' k k' n n' : Nat} {e e' : TypeId} {v v' : Value} {xs xs' : List Value} (h : w.ownsRow B e k v n xs) (h' : w.ownsRow B' e' k' v' n' xs') (hne : e ≠ e') : v'.ownBlock = none ∨ v'.ownBlock ≠ v.ownBlock := by
  cases hv : v'.ownBlock with
  | none => exact Or.inl rfl
  | some g =>
    right
    intro e0
    exact rows_ne h h' hne e0.symm hv
theorem BdM.node {B : Nat} {w0 w w' : World} {nv nv' ov : Value} {ns ns' : List Nv} {zs : List Int} (h : BdM B w0 w nv ov ns zs) (hm : MineN B w0 w' nv' ns') (hg : w.grownBy w' nv.ownBlock) : BdM B w0 w' nv' ov ns' zs :=
  ⟨hm, ⟨h.o.row.kept hg (kept_ne h.n.row.row h.o.row int_ne.2.1.symm), hm.row.below, Nat.le_trans h.o.size hg.size⟩⟩
theorem BdM.num {B : Nat} {w0 w w' : World} {nv ov ov' : Value} {ns : List Nv} {zs zs' : List Int} (h : BdM B w0 w nv ov ns zs) (hm : Mine .i64 3 B w0 w' ov' zs') (hg : w.grownBy w' ov.ownBlock) : BdM B w0 w' nv ov' ns zs' :=
  ⟨⟨⟨h.n.row.row.kept hg (kept_ne h.o.row h.n.row.row int_ne.2.1), hm.below, Nat.le_trans h.o.size hg.size⟩, fun p hp => ⟨(h.n.inn p hp).1.kept hg (kept_ne h.o.row (h.n.inn p hp).1 int_ne.1), fun g hgg => Nat.lt_of_lt_of_le ((h.n.inn p hp).2 g hgg) hg.size⟩, h.n.nod⟩, hm⟩
theorem BdM.down {B B' : Nat} {w0 w0' w : World} {nv ov : Value} {ns : List Nv} {zs : List Int} (h : BdM B w0 w nv ov ns zs) (hb : Below B' w0' w) (hB : B' ≤ B) : BdM B' w0' w nv ov ns zs :=
  ⟨⟨⟨(h.n.row.own.mono hB (Nat.le_refl _)).1, hb, Nat.le_trans hB h.n.row.size⟩, fun p hp => (h.n.inn p hp).mono hB (Nat.le_refl _), h.n.nod⟩, ⟨(h.o.own.mono hB (Nat.le_refl _)).1, hb, Nat.le_trans hB h.o.size⟩⟩
theorem BdM.reads {B : Nat} {w0 w : World} {nv ov : Value} {ns : List Nv} {b : Bd} (h : BdM B w0 w nv ov ns b.opn) (hn : ns.map Prod.fst = b.nodes) : BdIn w.heap.size w nv ov b := (h.at hn).reads (Nat.le_refl _)

/-- A box that holds a builder's two slices. -/
def Box2 (w : World) (c : Nat) (x y : Value) : Prop := w.heap[c]? = some (.cells #[x, y] 41 (0, 0))
theorem Box2.lt {w : World} {c : Nat} {x y : Value} (h : Box2 w c x y) : c < w.heap.size := heap_lt h
theorem Box2.keep {w w' : World} {c : Nat} {x y : Value} {e : TypeId} (h : Box2 w c x y) (hk : KeepT e w w') (hne : 41 ≠ e) : Box2 w' c x y := hk c _ _ hne h
theorem Box2.below {w w' : World} {B c : Nat} {x y : Value} (h : Box2 w c x y) (hb : Below B w w') (hc : c < B) : Box2 w' c x y := below_heap hb hc h
theorem Box2.set0 {w : World} {c : Nat} {x y : Value} (h : Box2 w c x y) (u : Value) : Box2 (w.setCell ⟨c, 0, none⟩ u) c u y := heap_one (o := 0) h u
theorem Box2.set1 {w : World} {c : Nat} {x y : Value} (h : Box2 w c x y) (u : Value) : Box2 (w.setCell ⟨c, 1, none⟩ u) c x u := heap_one (o := 1) h u
theorem Box2.far {w : World} {c c' o : Nat} {x y : Value} (h : Box2 w c x y) (hne : c ≠ c') (u : Value) : Box2 (w.setCell ⟨c', o, none⟩ u) c x y := box_far h hne o u
theorem Box2.alloc {w : World} {c : Nat} {x y : Value} (h : Box2 w c x y) (o : Obj) : Box2 (w.alloc o) c x y := h.below ((Below.refl _ _).alloc (Nat.le_refl _) o) h.lt
theorem Box2.cells {w : World} {c : Nat} {x y : Value} (h : Box2 w c x y) : (w.cell? ⟨c, 0, none⟩ = some x ∧ w.cell? ⟨c, 1, none⟩ = some y) ∧ w.frozen? ⟨c, 0, none⟩ = false ∧ w.frozen? ⟨c, 1, none⟩ = false :=
  ⟨⟨box_cell h rfl, box_cell h rfl⟩, box_frz h 0, box_frz h 1⟩
theorem Box2.new (w : World) (x y : Value) : Box2 (w.alloc (.cells #[x, y] 41)) w.heap.size x y := heap_alloc_new w _
theorem bd_ne : 41 ≠ 117 ∧ 41 ≠ 178 ∧ 41 ≠ 3 := by decide

/-- A copy of attributes. -/
theorem cpA_spec (v : Value) (hi : Nat) (xs : List At) (w : World) (hr : ReadsK encA 2 hi w v xs) (hh : hi ≤ w.heap.size) (hl : xs.length ≤ 137438953472) :
    Calls Tryz.prog 121 #[v] w (NewK encA 2 178 xs w) := by
  have HR := Lib.hid (hr.below ((Below.refl _ w).alloc (Nat.le_refl _) (.cells #[] 178)) hh)
  obtain ⟨a, cap, rfl, _⟩ := id hr
  clear hr
  go_enter Tryz.func121, Tryz.ntmps121
  go_wp2_with (at_builtin; refine wpList_appA rfl _ _ rfl w.heap.size w _ [] rfl (MineK.empty _ _ _ w w _ (Below.refl _ _) (Nat.le_refl _)) _ hi xs rfl HR.out ?cl ?_)
  case cl => simpa using hl
  intro v2 w2 hm
  have HM := Lib.hid hm; clear hm
  go_wp2
  go_ret
  exact ⟨_, rfl, by simpa using HM.out.own, HM.out.below⟩

theorem cpA_impl (v : Value) (hi : Nat) (xs : List At) (w : World) (hr : ReadsK encA 2 hi w v xs) (hh : hi ≤ w.heap.size) (hl : xs.length ≤ 137438953472) :
    Calls Tryz.prog 113 #[v] w (NewK encA 2 178 xs w) := by
  have HR := Lib.hid (hr.below ((Below.refl _ w).alloc (Nat.le_refl _) (.cells #[] 178)) hh)
  obtain ⟨a, cap, rfl, _⟩ := id hr
  clear hr
  go_enter Tryz.func113, Tryz.ntmps113
  go_wp2_with (at_builtin; refine wpList_appA rfl _ _ rfl w.heap.size w _ [] rfl (MineK.empty _ _ _ w w _ (Below.refl _ _) (Nat.le_refl _)) _ hi xs rfl HR.out ?cl ?_)
  case cl => simpa using hl
  intro v2 w2 hm
  have HM := Lib.hid hm; clear hm
  go_wp2
  go_ret
  exact ⟨_, rfl, by simpa using HM.out.own, HM.out.below⟩

end Go.Proofs.YtpkicliimhflgaaGreatDoor

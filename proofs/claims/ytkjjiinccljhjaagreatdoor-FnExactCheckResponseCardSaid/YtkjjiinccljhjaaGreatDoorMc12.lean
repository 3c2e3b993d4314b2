/- Helper contracts: IsResponse of the program and of the model answer alike. Asked: the policy's text is no longer than 2^20 bytes; for the program: the library's MaxLen holds a number. Helper contracts: FitsKind, SizeResponse and NotFound of the program and of the model answer alike. Helper contracts over the library's slices.Grow and slices.Concat at bytes: a new slice that holds the given ones behind each other. Asked: the slices read as the lists named, and together they are no longer than 2^44. Helper contracts over the library's slices.Grow and slices.Concat at integers: a new slice that holds the given ones behind each other. Asked: the slices read as the lists named, and together they are no longer than 2^44. Helper contracts: Hash, KeyedHash and IsValidKey of the program and of the model answer alike: the fold of the numbers named. Asked: the slices read as the lists named. Helper contracts: KeyedHash, IsValidKey and BytesToInts of the program and of the model answer alike. Asked: the slices read as the lists named, and are no longer than 2^40. Helper contracts: DeriveFromString of the program and of the model answer alike. Asked: the string is no longer than 2^20. Helper contracts: DigestOf of the program and of the model answer alike. Asked: the body is no longer than 2^20. Helper contract over the model's FormatInt: for every int it returns the decimal numeral; it only makes new blocks of memory. The program's FormatInt returns the decimal numeral of every int, and so the law FnExactFormatInt returns true; asked: the library's table of powers of ten lies in memory as its initialiser lays it. Helper contracts: CheckDigest of the program and of the model answer alike. Asked: the body is no longer than 2^20; for the program: the library's table of powers of ten lies as its initialiser lays it. -/
import Derived.Test.YtkjjiinccljhjaaGreatDoorMc7
import Derived.Test.YtkjjiinccljhjaaGreatDoorMc10
import Derived.Test.YtkjjiinccljhjaaGreatDoorMc11
import Derived.Test.YtkjjiinccljhjaaGreatDoorMc1
import Derived.Test.YtkjjiinccljhjaaGreatDoorMc3
import Derived.Test.YtkjjiinccljhjaaGreatDoorMc5
import Derived.Laws.IdiomStrings
import Derived.Test.YtkjjiinccljhjaaGreatDoorRows
import Derived.WalkKit
import Derived.ProofKit
import Derived.OpenShut
import Derived.LoopTactic
import Derived.Lib.Hide
import Derived.Lib.ItoaNum
import Derived.Below
import Derived.Test.YtkjjiinccljhjaaGreatDoorShelf
import Derived.Lib.AppendIntMem
import Derived.Test.YtkjjiinccljhjaaGreatDoorMc2
namespace Go.Proofs.YtkjjiinccljhjaaGreatDoor

open Go.ChangeShapes Go.WideShapes Go.ChangeAt Go.RowKit

def isRs (st kd : Int) (bo : ByteArray) (ag : Int) (po : ByteArray) : Bool := inB st 100 599 && inB kd 1 5 && decide (bo.size ≤ 400) && inB ag 0 1000 && (prsP po).2

set_option maxRecDepth 100000 in
set_option maxHeartbeats 2000000 in
theorem isRs_spec (st kd : Int) (bo : ByteArray) (ag : Int) (sh : Bool) (po : ByteArray) (hz : po.size ≤ 1048576) (w : World) :
    Calls Tryz.prog 40 #[.agg #[.int .i64 st, .int .i64 kd, .string bo, .int .i64 ag, .bool sh, .string po]] w fun e w' => e = .returned (.bool (isRs st kd bo ag po)) ∧ Below w.heap.size w w' := by
  obtain ⟨W, hW⟩ : ∃ W, w.alloc (.cells #[.int .i64 st, .int .i64 kd, .string bo, .int .i64 ag, .bool sh, .string po] 32) = W := ⟨_, rfl⟩
  have HB := Lib.hid (show Below w.heap.size w W by rw [← hW]; exact bl_aw (Below.refl _ _) _)
  have q0 : W.cell? ⟨w.heap.size, 0, none⟩ = some (.int .i64 st) := by rw [← hW]; simp
  have q1 : W.cell? ⟨w.heap.size, 1, none⟩ = some (.int .i64 kd) := by rw [← hW]; simp
  have q2 : W.cell? ⟨w.heap.size, 2, none⟩ = some (.string bo) := by rw [← hW]; simp
  have q3 : W.cell? ⟨w.heap.size, 3, none⟩ = some (.int .i64 ag) := by rw [← hW]; simp
  have q4 : W.cell? ⟨w.heap.size, 4, none⟩ = some (.bool sh) := by rw [← hW]; simp
  have q5 : W.cell? ⟨w.heap.size, 5, none⟩ = some (.string po) := by rw [← hW]; simp
  have HW := Lib.hid hW; clear hW
  obtain ⟨⟨q, ok⟩, hq⟩ : ∃ r, prsP po = r := ⟨_, rfl⟩
  have HP := Lib.hid (hq ▸ prs_spec po hz W)
  have HV := Lib.hid (show isRs st kd bo ag po = (inB st 100 599 && inB kd 1 5 && decide (bo.size ≤ 400) && inB ag 0 1000 && ok) by unfold isRs; rw [hq])
  clear hq hz
  have HI1 := Lib.hid (fun X => lin_any st 100 599 X); have HI2 := Lib.hid (fun X => lin_any kd 1 5 X); have HI3 := Lib.hid (fun X => lin_any ag 0 1000 X)
  cases e1 : inB st 100 599 with
  | false =>
    rw [e1] at HI1 HV; clear e1
    go_enter Tryz.func40, Tryz.ntmps40
    go_wp2_with fail
    rw [HW.out]
    refine HP.out.mono ?_
    rintro e w1 ⟨a1, n1, c1, a2, n2, c2, a3, n3, c3, rfl, -, hb⟩
    replace q0 := (hb.cell (show (⟨w.heap.size, 0, none⟩ : Addr).block < _ from World.block_lt_of_cell? _ _ q0)).trans q0
    replace q1 := (hb.cell (show (⟨w.heap.size, 1, none⟩ : Addr).block < _ from World.block_lt_of_cell? _ _ q1)).trans q1
    replace q2 := (hb.cell (show (⟨w.heap.size, 2, none⟩ : Addr).block < _ from World.block_lt_of_cell? _ _ q2)).trans q2
    replace q3 := (hb.cell (show (⟨w.heap.size, 3, none⟩ : Addr).block < _ from World.block_lt_of_cell? _ _ q3)).trans q3
    replace q4 := (hb.cell (show (⟨w.heap.size, 4, none⟩ : Addr).block < _ from World.block_lt_of_cell? _ _ q4)).trans q4
    replace q5 := (hb.cell (show (⟨w.heap.size, 5, none⟩ : Addr).block < _ from World.block_lt_of_cell? _ _ q5)).trans q5
    replace HB := Lib.hid (HB.out.trans (hb.mono HB.out.size)); clear hb
    go_upto_region 2 with (fail)
    obtain ⟨w2, hw2⟩ : ∃ x, w1.alloc (.cells #[.bool q.set, .slice a1 n1 c1, .slice a2 n2 c2, .slice a3 n3 c3, .string q.non] 26) = x := ⟨_, rfl⟩
    rw [hw2]
    have hb2 : Below w1.heap.size w1 w2 := by rw [← hw2]; exact bl_aw (Below.refl _ _) _
    replace q0 := (hb2.cell (show (⟨w.heap.size, 0, none⟩ : Addr).block < _ from World.block_lt_of_cell? _ _ q0)).trans q0
    replace q1 := (hb2.cell (show (⟨w.heap.size, 1, none⟩ : Addr).block < _ from World.block_lt_of_cell? _ _ q1)).trans q1
    replace q2 := (hb2.cell (show (⟨w.heap.size, 2, none⟩ : Addr).block < _ from World.block_lt_of_cell? _ _ q2)).trans q2
    replace q3 := (hb2.cell (show (⟨w.heap.size, 3, none⟩ : Addr).block < _ from World.block_lt_of_cell? _ _ q3)).trans q3
    replace q4 := (hb2.cell (show (⟨w.heap.size, 4, none⟩ : Addr).block < _ from World.block_lt_of_cell? _ _ q4)).trans q4
    replace q5 := (hb2.cell (show (⟨w.heap.size, 5, none⟩ : Addr).block < _ from World.block_lt_of_cell? _ _ q5)).trans q5
    replace HB := Lib.hid (HB.out.trans (hb2.mono HB.out.size)); clear hb2 hw2
    go_wp2_with fail
    refine (HI1.out _).mono ?_
    rintro e wz ⟨rfl, rfl⟩
    go_wp2_with fail
    go_ret
    exact ⟨by rw [HV.out]; rfl, HB.out⟩
  | true =>
    rw [e1] at HI1 HV; clear e1
    cases e2 : inB kd 1 5 with
    | false =>
      rw [e2] at HI2 HV; clear e2
      go_enter Tryz.func40, Tryz.ntmps40
      go_wp2_with fail
      rw [HW.out]
      refine HP.out.mono ?_
      rintro e w1 ⟨a1, n1, c1, a2, n2, c2, a3, n3, c3, rfl, -, hb⟩
      replace q0 := (hb.cell (show (⟨w.heap.size, 0, none⟩ : Addr).block < _ from World.block_lt_of_cell? _ _ q0)).trans q0
      replace q1 := (hb.cell (show (⟨w.heap.size, 1, none⟩ : Addr).block < _ from World.block_lt_of_cell? _ _ q1)).trans q1
      replace q2 := (hb.cell (show (⟨w.heap.size, 2, none⟩ : Addr).block < _ from World.block_lt_of_cell? _ _ q2)).trans q2
      replace q3 := (hb.cell (show (⟨w.heap.size, 3, none⟩ : Addr).block < _ from World.block_lt_of_cell? _ _ q3)).trans q3
      replace q4 := (hb.cell (show (⟨w.heap.size, 4, none⟩ : Addr).block < _ from World.block_lt_of_cell? _ _ q4)).trans q4
      replace q5 := (hb.cell (show (⟨w.heap.size, 5, none⟩ : Addr).block < _ from World.block_lt_of_cell? _ _ q5)).trans q5
      replace HB := Lib.hid (HB.out.trans (hb.mono HB.out.size)); clear hb
      go_upto_region 2 with (fail)
      obtain ⟨w2, hw2⟩ : ∃ x, w1.alloc (.cells #[.bool q.set, .slice a1 n1 c1, .slice a2 n2 c2, .slice a3 n3 c3, .string q.non] 26) = x := ⟨_, rfl⟩
      rw [hw2]
      have hb2 : Below w1.heap.size w1 w2 := by rw [← hw2]; exact bl_aw (Below.refl _ _) _
      replace q0 := (hb2.cell (show (⟨w.heap.size, 0, none⟩ : Addr).block < _ from World.block_lt_of_cell? _ _ q0)).trans q0
      replace q1 := (hb2.cell (show (⟨w.heap.size, 1, none⟩ : Addr).block < _ from World.block_lt_of_cell? _ _ q1)).trans q1
      replace q2 := (hb2.cell (show (⟨w.heap.size, 2, none⟩ : Addr).block < _ from World.block_lt_of_cell? _ _ q2)).trans q2
      replace q3 := (hb2.cell (show (⟨w.heap.size, 3, none⟩ : Addr).block < _ from World.block_lt_of_cell? _ _ q3)).trans q3
      replace q4 := (hb2.cell (show (⟨w.heap.size, 4, none⟩ : Addr).block < _ from World.block_lt_of_cell? _ _ q4)).trans q4
      replace q5 := (hb2.cell (show (⟨w.heap.size, 5, none⟩ : Addr).block < _ from World.block_lt_of_cell? _ _ q5)).trans q5
      replace HB := Lib.hid (HB.out.trans (hb2.mono HB.out.size)); clear hb2 hw2
      go_wp2_with fail
      refine (HI1.out _).mono ?_
      rintro e wz ⟨rfl, rfl⟩
      go_wp2_with fail
      refine (HI2.out _).mono ?_
      rintro e wz ⟨rfl, rfl⟩
      go_wp2_with fail
      go_ret
      exact ⟨by rw [HV.out]; rfl, HB.out⟩
    | true =>
      rw [e2] at HI2 HV; clear e2
      by_cases h4 : bo.size ≤ 400
      · have d1 : decide ((400 : Int) < (bo.size : Int)) = false := decide_eq_false (by omega); have d2 : decide ((bo.size : Int) ≤ 400) = true := decide_eq_true (by omega); have d3 : ¬ (400 : Int) < (bo.size : Int) := (by omega); have d4 : (bo.size : Int) ≤ 400 := (by omega)
        rw [decide_eq_true h4] at HV; clear h4
        cases e3 : inB ag 0 1000 with
        | false =>
          rw [e3] at HI3 HV; clear e3
          go_enter Tryz.func40, Tryz.ntmps40
          go_wp2_with fail
          rw [HW.out]
          refine HP.out.mono ?_
          rintro e w1 ⟨a1, n1, c1, a2, n2, c2, a3, n3, c3, rfl, -, hb⟩
          replace q0 := (hb.cell (show (⟨w.heap.size, 0, none⟩ : Addr).block < _ from World.block_lt_of_cell? _ _ q0)).trans q0
          replace q1 := (hb.cell (show (⟨w.heap.size, 1, none⟩ : Addr).block < _ from World.block_lt_of_cell? _ _ q1)).trans q1
          replace q2 := (hb.cell (show (⟨w.heap.size, 2, none⟩ : Addr).block < _ from World.block_lt_of_cell? _ _ q2)).trans q2
          replace q3 := (hb.cell (show (⟨w.heap.size, 3, none⟩ : Addr).block < _ from World.block_lt_of_cell? _ _ q3)).trans q3
          replace q4 := (hb.cell (show (⟨w.heap.size, 4, none⟩ : Addr).block < _ from World.block_lt_of_cell? _ _ q4)).trans q4
          replace q5 := (hb.cell (show (⟨w.heap.size, 5, none⟩ : Addr).block < _ from World.block_lt_of_cell? _ _ q5)).trans q5
          replace HB := Lib.hid (HB.out.trans (hb.mono HB.out.size)); clear hb
          go_upto_region 2 with (fail)
          obtain ⟨w2, hw2⟩ : ∃ x, w1.alloc (.cells #[.bool q.set, .slice a1 n1 c1, .slice a2 n2 c2, .slice a3 n3 c3, .string q.non] 26) = x := ⟨_, rfl⟩
          rw [hw2]
          have hb2 : Below w1.heap.size w1 w2 := by rw [← hw2]; exact bl_aw (Below.refl _ _) _
          replace q0 := (hb2.cell (show (⟨w.heap.size, 0, none⟩ : Addr).block < _ from World.block_lt_of_cell? _ _ q0)).trans q0
          replace q1 := (hb2.cell (show (⟨w.heap.size, 1, none⟩ : Addr).block < _ from World.block_lt_of_cell? _ _ q1)).trans q1
          replace q2 := (hb2.cell (show (⟨w.heap.size, 2, none⟩ : Addr).block < _ from World.block_lt_of_cell? _ _ q2)).trans q2
          replace q3 := (hb2.cell (show (⟨w.heap.size, 3, none⟩ : Addr).block < _ from World.block_lt_of_cell? _ _ q3)).trans q3
          replace q4 := (hb2.cell (show (⟨w.heap.size, 4, none⟩ : Addr).block < _ from World.block_lt_of_cell? _ _ q4)).trans q4
          replace q5 := (hb2.cell (show (⟨w.heap.size, 5, none⟩ : Addr).block < _ from World.block_lt_of_cell? _ _ q5)).trans q5
          replace HB := Lib.hid (HB.out.trans (hb2.mono HB.out.size)); clear hb2 hw2
          go_wp2_with fail
          refine (HI1.out _).mono ?_
          rintro e wz ⟨rfl, rfl⟩
          go_wp2_with fail
          refine (HI2.out _).mono ?_
          rintro e wz ⟨rfl, rfl⟩
          go_wp2_with fail
          refine (HI3.out _).mono ?_
          rintro e wz ⟨rfl, rfl⟩
          go_wp2_with fail
          go_ret
          exact ⟨by rw [HV.out]; rfl, HB.out⟩
        | true =>
          rw [e3] at HI3 HV; clear e3
          go_enter Tryz.func40, Tryz.ntmps40
          go_wp2_with fail
          rw [HW.out]
          refine HP.out.mono ?_
          rintro e w1 ⟨a1, n1, c1, a2, n2, c2, a3, n3, c3, rfl, -, hb⟩
          replace q0 := (hb.cell (show (⟨w.heap.size, 0, none⟩ : Addr).block < _ from World.block_lt_of_cell? _ _ q0)).trans q0
          replace q1 := (hb.cell (show (⟨w.heap.size, 1, none⟩ : Addr).block < _ from World.block_lt_of_cell? _ _ q1)).trans q1
          replace q2 := (hb.cell (show (⟨w.heap.size, 2, none⟩ : Addr).block < _ from World.block_lt_of_cell? _ _ q2)).trans q2
          replace q3 := (hb.cell (show (⟨w.heap.size, 3, none⟩ : Addr).block < _ from World.block_lt_of_cell? _ _ q3)).trans q3
          replace q4 := (hb.cell (show (⟨w.heap.size, 4, none⟩ : Addr).block < _ from World.block_lt_of_cell? _ _ q4)).trans q4
          replace q5 := (hb.cell (show (⟨w.heap.size, 5, none⟩ : Addr).block < _ from World.block_lt_of_cell? _ _ q5)).trans q5
          replace HB := Lib.hid (HB.out.trans (hb.mono HB.out.size)); clear hb
          go_upto_region 2 with (fail)
          obtain ⟨w2, hw2⟩ : ∃ x, w1.alloc (.cells #[.bool q.set, .slice a1 n1 c1, .slice a2 n2 c2, .slice a3 n3 c3, .string q.non] 26) = x := ⟨_, rfl⟩
          rw [hw2]
          have hb2 : Below w1.heap.size w1 w2 := by rw [← hw2]; exact bl_aw (Below.refl _ _) _
          replace q0 := (hb2.cell (show (⟨w.heap.size, 0, none⟩ : Addr).block < _ from World.block_lt_of_cell? _ _ q0)).trans q0
          replace q1 := (hb2.cell (show (⟨w.heap.size, 1, none⟩ : Addr).block < _ from World.block_lt_of_cell? _ _ q1)).trans q1
          replace q2 := (hb2.cell (show (⟨w.heap.size, 2, none⟩ : Addr).block < _ from World.block_lt_of_cell? _ _ q2)).trans q2
          replace q3 := (hb2.cell (show (⟨w.heap.size, 3, none⟩ : Addr).block < _ from World.block_lt_of_cell? _ _ q3)).trans q3
          replace q4 := (hb2.cell (show (⟨w.heap.size, 4, none⟩ : Addr).block < _ from World.block_lt_of_cell? _ _ q4)).trans q4
          replace q5 := (hb2.cell (show (⟨w.heap.size, 5, none⟩ : Addr).block < _ from World.block_lt_of_cell? _ _ q5)).trans q5
          replace HB := Lib.hid (HB.out.trans (hb2.mono HB.out.size)); clear hb2 hw2
          go_wp2_with fail
          refine (HI1.out _).mono ?_
          rintro e wz ⟨rfl, rfl⟩
          go_wp2_with fail
          refine (HI2.out _).mono ?_
          rintro e wz ⟨rfl, rfl⟩
          go_wp2_with fail
          refine (HI3.out _).mono ?_
          rintro e wz ⟨rfl, rfl⟩
          go_wp2_with fail
          go_ret
          exact ⟨by rw [HV.out]; rfl, HB.out⟩
      · have d1 : decide ((400 : Int) < (bo.size : Int)) = true := decide_eq_true (by omega); have d2 : decide ((bo.size : Int) ≤ 400) = false := decide_eq_false (by omega); have d3 : (400 : Int) < (bo.size : Int) := (by omega); have d4 : ¬ (bo.size : Int) ≤ 400 := (by omega)
        rw [decide_eq_false h4] at HV; clear h4
        go_enter Tryz.func40, Tryz.ntmps40
        go_wp2_with fail
        rw [HW.out]
        refine HP.out.mono ?_
        rintro e w1 ⟨a1, n1, c1, a2, n2, c2, a3, n3, c3, rfl, -, hb⟩
        replace q0 := (hb.cell (show (⟨w.heap.size, 0, none⟩ : Addr).block < _ from World.block_lt_of_cell? _ _ q0)).trans q0
        replace q1 := (hb.cell (show (⟨w.heap.size, 1, none⟩ : Addr).block < _ from World.block_lt_of_cell? _ _ q1)).trans q1
        replace q2 := (hb.cell (show (⟨w.heap.size, 2, none⟩ : Addr).block < _ from World.block_lt_of_cell? _ _ q2)).trans q2
        replace q3 := (hb.cell (show (⟨w.heap.size, 3, none⟩ : Addr).block < _ from World.block_lt_of_cell? _ _ q3)).trans q3
        replace q4 := (hb.cell (show (⟨w.heap.size, 4, none⟩ : Addr).block < _ from World.block_lt_of_cell? _ _ q4)).trans q4
        replace q5 := (hb.cell (show (⟨w.heap.size, 5, none⟩ : Addr).block < _ from World.block_lt_of_cell? _ _ q5)).trans q5
        replace HB := Lib.hid (HB.out.trans (hb.mono HB.out.size)); clear hb
        go_upto_region 2 with (fail)
        obtain ⟨w2, hw2⟩ : ∃ x, w1.alloc (.cells #[.bool q.set, .slice a1 n1 c1, .slice a2 n2 c2, .slice a3 n3 c3, .string q.non] 26) = x := ⟨_, rfl⟩
        rw [hw2]
        have hb2 : Below w1.heap.size w1 w2 := by rw [← hw2]; exact bl_aw (Below.refl _ _) _
        replace q0 := (hb2.cell (show (⟨w.heap.size, 0, none⟩ : Addr).block < _ from World.block_lt_of_cell? _ _ q0)).trans q0
        replace q1 := (hb2.cell (show (⟨w.heap.size, 1, none⟩ : Addr).block < _ from World.block_lt_of_cell? _ _ q1)).trans q1
        replace q2 := (hb2.cell (show (⟨w.heap.size, 2, none⟩ : Addr).block < _ from World.block_lt_of_cell? _ _ q2)).trans q2
        replace q3 := (hb2.cell (show (⟨w.heap.size, 3, none⟩ : Addr).block < _ from World.block_lt_of_cell? _ _ q3)).trans q3
        replace q4 := (hb2.cell (show (⟨w.heap.size, 4, none⟩ : Addr).block < _ from World.block_lt_of_cell? _ _ q4)).trans q4
        replace q5 := (hb2.cell (show (⟨w.heap.size, 5, none⟩ : Addr).block < _ from World.block_lt_of_cell? _ _ q5)).trans q5
        replace HB := Lib.hid (HB.out.trans (hb2.mono HB.out.size)); clear hb2 hw2
        go_wp2_with fail
        refine (HI1.out _).mono ?_
        rintro e wz ⟨rfl, rfl⟩
        go_wp2_with fail
        refine (HI2.out _).mono ?_
        rintro e wz ⟨rfl, rfl⟩
        go_wp2_with fail
        go_ret
        exact ⟨by rw [HV.out]; rfl, HB.out⟩

set_option maxRecDepth 100000 in
set_option maxHeartbeats 2000000 in
theorem isRs_impl (st kd : Int) (bo : ByteArray) (ag : Int) (sh : Bool) (po : ByteArray) (hz : po.size ≤ 1048576) (w : World) (hm : Max0 w) :
    Calls Tryz.prog 39 #[.agg #[.int .i64 st, .int .i64 kd, .string bo, .int .i64 ag, .bool sh, .string po]] w fun e w' => e = .returned (.bool (isRs st kd bo ag po)) ∧ Below w.heap.size w w' := by
  obtain ⟨W, hW⟩ : ∃ W, w.alloc (.cells #[.int .i64 st, .int .i64 kd, .string bo, .int .i64 ag, .bool sh, .string po] 32) = W := ⟨_, rfl⟩
  have HB := Lib.hid (show Below w.heap.size w W by rw [← hW]; exact bl_aw (Below.refl _ _) _)
  have q0 : W.cell? ⟨w.heap.size, 0, none⟩ = some (.int .i64 st) := by rw [← hW]; simp
  have q1 : W.cell? ⟨w.heap.size, 1, none⟩ = some (.int .i64 kd) := by rw [← hW]; simp
  have q2 : W.cell? ⟨w.heap.size, 2, none⟩ = some (.string bo) := by rw [← hW]; simp
  have q3 : W.cell? ⟨w.heap.size, 3, none⟩ = some (.int .i64 ag) := by rw [← hW]; simp
  have q4 : W.cell? ⟨w.heap.size, 4, none⟩ = some (.bool sh) := by rw [← hW]; simp
  have q5 : W.cell? ⟨w.heap.size, 5, none⟩ = some (.string po) := by rw [← hW]; simp
  have HW := Lib.hid hW; clear hW
  obtain ⟨⟨q, ok⟩, hq⟩ : ∃ r, prsP po = r := ⟨_, rfl⟩
  have HP := Lib.hid (hq ▸ prs_impl po hz W (hm.on HB.out))
  have HV := Lib.hid (show isRs st kd bo ag po = (inB st 100 599 && inB kd 1 5 && decide (bo.size ≤ 400) && inB ag 0 1000 && ok) by unfold isRs; rw [hq])
  clear hq hz hm
  have HI1 := Lib.hid (fun X => rin_any st 100 599 X); have HI2 := Lib.hid (fun X => rin_any kd 1 5 X); have HI3 := Lib.hid (fun X => rin_any ag 0 1000 X)
  cases e1 : inB st 100 599 with
  | false =>
    rw [e1] at HI1 HV; clear e1
    go_enter Tryz.func39, Tryz.ntmps39
    go_wp2_with fail
    rw [HW.out]
    refine (HI1.out _).mono ?_
    rintro e wz ⟨rfl, rfl⟩
    go_wp2_with fail
    go_ret
    exact ⟨by rw [HV.out]; rfl, HB.out⟩
  | true =>
    rw [e1] at HI1 HV; clear e1
    cases e2 : inB kd 1 5 with
    | false =>
      rw [e2] at HI2 HV; clear e2
      go_enter Tryz.func39, Tryz.ntmps39
      go_wp2_with fail
      rw [HW.out]
      refine (HI1.out _).mono ?_
      rintro e wz ⟨rfl, rfl⟩
      go_wp2_with fail
      refine (HI2.out _).mono ?_
      rintro e wz ⟨rfl, rfl⟩
      go_wp2_with fail
      go_ret
      exact ⟨by rw [HV.out]; rfl, HB.out⟩
    | true =>
      rw [e2] at HI2 HV; clear e2
      by_cases h4 : bo.size ≤ 400
      · have d1 : decide ((400 : Int) < (bo.size : Int)) = false := decide_eq_false (by omega); have d2 : decide ((bo.size : Int) ≤ 400) = true := decide_eq_true (by omega); have d3 : ¬ (400 : Int) < (bo.size : Int) := (by omega); have d4 : (bo.size : Int) ≤ 400 := (by omega)
        rw [decide_eq_true h4] at HV; clear h4
        cases e3 : inB ag 0 1000 with
        | false =>
          rw [e3] at HI3 HV; clear e3
          go_enter Tryz.func39, Tryz.ntmps39
          go_wp2_with fail
          rw [HW.out]
          refine (HI1.out _).mono ?_
          rintro e wz ⟨rfl, rfl⟩
          go_wp2_with fail
          refine (HI2.out _).mono ?_
          rintro e wz ⟨rfl, rfl⟩
          go_wp2_with fail
          refine (HI3.out _).mono ?_
          rintro e wz ⟨rfl, rfl⟩
          go_wp2_with fail
          go_ret
          exact ⟨by rw [HV.out]; rfl, HB.out⟩
        | true =>
          rw [e3] at HI3 HV; clear e3
          go_enter Tryz.func39, Tryz.ntmps39
          go_wp2_with fail
          rw [HW.out]
          refine (HI1.out _).mono ?_
          rintro e wz ⟨rfl, rfl⟩
          go_wp2_with fail
          refine (HI2.out _).mono ?_
          rintro e wz ⟨rfl, rfl⟩
          go_wp2_with fail
          refine (HI3.out _).mono ?_
          rintro e wz ⟨rfl, rfl⟩
          go_wp2_with fail
          refine HP.out.mono ?_
          rintro e w1 ⟨a1, n1, c1, a2, n2, c2, a3, n3, c3, rfl, -, hb⟩
          replace HB := Lib.hid (HB.out.trans (hb.mono HB.out.size)); clear hb
          go_wp2_with fail
          go_ret
          exact ⟨by rw [HV.out]; rfl, HB.out.alloc HB.out.size _⟩
      · have d1 : decide ((400 : Int) < (bo.size : Int)) = true := decide_eq_true (by omega); have d2 : decide ((bo.size : Int) ≤ 400) = false := decide_eq_false (by omega); have d3 : (400 : Int) < (bo.size : Int) := (by omega); have d4 : ¬ (bo.size : Int) ≤ 400 := (by omega)
        rw [decide_eq_false h4] at HV; clear h4
        go_enter Tryz.func39, Tryz.ntmps39
        go_wp2_with fail
        rw [HW.out]
        refine (HI1.out _).mono ?_
        rintro e wz ⟨rfl, rfl⟩
        go_wp2_with fail
        refine (HI2.out _).mono ?_
        rintro e wz ⟨rfl, rfl⟩
        go_wp2_with fail
        go_ret
        exact ⟨by rw [HV.out]; rfl, HB.out⟩

end Go.Proofs.YtkjjiinccljhjaaGreatDoor
namespace Go.Proofs.YtkjjiinccljhjaaGreatDoor
open Go.ChangeShapes Go.WideShapes Go.ChangeAt Go.RowKit

def fitB (kd k : Int) : Bool := decide (kd = k) || (decide (k = 5) && decide (kd = 2))
theorem fit_eq {kd k : Int} (h : kd = k) : fitB kd k = true := by unfold fitB; rw [decide_eq_true h]; rfl
theorem fit_not {kd k : Int} (h : kd ≠ k) (h5 : k ≠ 5) : fitB kd k = false := by unfold fitB; rw [decide_eq_false h, decide_eq_false h5]; rfl
theorem fit_yes {kd k : Int} (h5 : k = 5) (h2 : kd = 2) : fitB kd k = true := by unfold fitB; rw [decide_eq_true h5, decide_eq_true h2]; simp
theorem fit_no {kd k : Int} (h : kd ≠ k) (h2 : kd ≠ 2) : fitB kd k = false := by unfold fitB; rw [decide_eq_false h, decide_eq_false h2]; simp

set_option maxRecDepth 100000 in
set_option maxHeartbeats 2000000 in
theorem fits_spec (st kd : Int) (bo : ByteArray) (ag : Int) (sh : Bool) (po : ByteArray) (k : Int) (w : World) :
    Calls Tryz.prog 18 #[.agg #[.int .i64 st, .int .i64 kd, .string bo, .int .i64 ag, .bool sh, .string po], .int .i64 k] w fun e w' => e = .returned (.bool (fitB kd k)) ∧ Grw w w' := by
  have HG := Lib.hid ((Grw.refl w).alloc (.cells #[.int .i64 st, .int .i64 kd, .string bo, .int .i64 ag, .bool sh, .string po] 32))
  by_cases h1 : kd = k
  · have e1 : (kd == k) = true := beq_iff_eq.2 h1
    have HV := Lib.hid (fit_eq h1); clear h1
    go_enter Tryz.func18, Tryz.ntmps18
    go_wp2_with fail
    go_ret
    exact ⟨by rw [HV.out]; rfl, HG.out⟩
  · have e1 : (kd == k) = false := beq_eq_false_iff_ne.2 h1
    by_cases h5 : k = 5
    · have e5 : (k == 5) = true := beq_iff_eq.2 h5
      by_cases h2 : kd = 2
      · have e2 : (kd == 2) = true := beq_iff_eq.2 h2
        have HV := Lib.hid (fit_yes h5 h2); clear h1 h5 h2
        go_enter Tryz.func18, Tryz.ntmps18
        go_wp2_with fail
        go_ret
        exact ⟨by rw [HV.out]; rfl, HG.out⟩
      · have e2 : (kd == 2) = false := beq_eq_false_iff_ne.2 h2
        have HV := Lib.hid (fit_no h1 h2); clear h1 h5 h2
        go_enter Tryz.func18, Tryz.ntmps18
        go_wp2_with fail
        go_ret
        exact ⟨by rw [HV.out]; rfl, HG.out⟩
    · have e5 : (k == 5) = false := beq_eq_false_iff_ne.2 h5
      have HV := Lib.hid (fit_not h1 h5); clear h1 h5
      go_enter Tryz.func18, Tryz.ntmps18
      go_wp2_with fail
      go_ret
      exact ⟨by rw [HV.out]; rfl, HG.out⟩

set_option maxRecDepth 100000 in
set_option maxHeartbeats 2000000 in
theorem fits_impl (st kd : Int) (bo : ByteArray) (ag : Int) (sh : Bool) (po : ByteArray) (k : Int) (w : World) :
    Calls Tryz.prog 41 #[.agg #[.int .i64 st, .int .i64 kd, .string bo, .int .i64 ag, .bool sh, .string po], .int .i64 k] w fun e w' => e = .returned (.bool (fitB kd k)) ∧ Grw w w' := by
  have HG := Lib.hid ((Grw.refl w).alloc (.cells #[.int .i64 st, .int .i64 kd, .string bo, .int .i64 ag, .bool sh, .string po] 32))
  by_cases h1 : kd = k
  · have e1 : (kd == k) = true := beq_iff_eq.2 h1
    have HV := Lib.hid (fit_eq h1); clear h1
    go_enter Tryz.func41, Tryz.ntmps41
    go_wp2_with fail
    go_ret
    exact ⟨by rw [HV.out]; rfl, HG.out⟩
  · have e1 : (kd == k) = false := beq_eq_false_iff_ne.2 h1
    by_cases h5 : k = 5
    · have e5 : (k == 5) = true := beq_iff_eq.2 h5
      by_cases h2 : kd = 2
      · have e2 : (kd == 2) = true := beq_iff_eq.2 h2
        have HV := Lib.hid (fit_yes h5 h2); clear h1 h5 h2
        go_enter Tryz.func41, Tryz.ntmps41
        go_wp2_with fail
        go_ret
        exact ⟨by rw [HV.out]; rfl, HG.out⟩
      · have e2 : (kd == 2) = false := beq_eq_false_iff_ne.2 h2
        have HV := Lib.hid (fit_no h1 h2); clear h1 h5 h2
        go_enter Tryz.func41, Tryz.ntmps41
        go_wp2_with fail
        go_ret
        exact ⟨by rw [HV.out]; rfl, HG.out⟩
    · have e5 : (k == 5) = false := beq_eq_false_iff_ne.2 h5
      have HV := Lib.hid (fit_not h1 h5); clear h1 h5
      go_enter Tryz.func41, Tryz.ntmps41
      go_wp2_with fail
      go_ret
      exact ⟨by rw [HV.out]; rfl, HG.out⟩

set_option maxRecDepth 100000 in
set_option maxHeartbeats 2000000 in
theorem size_impl (st kd : Int) (bo : ByteArray) (ag : Int) (sh : Bool) (po : ByteArray) (hz : bo.size ≤ 1099511627776) (w : World) :
    Calls Tryz.prog 42 #[.agg #[.int .i64 st, .int .i64 kd, .string bo, .int .i64 ag, .bool sh, .string po]] w fun e w' => e = .returned (.int .i64 ((bo.size : Int) + 20)) ∧ Grw w w' := by
  have HG := Lib.hid ((Grw.refl w).alloc (.cells #[.int .i64 st, .int .i64 kd, .string bo, .int .i64 ag, .bool sh, .string po] 32))
  go_enter Tryz.func42, Tryz.ntmps42
  go_wp2_with fail
  go_ret
  exact ⟨rfl, HG.out⟩

set_option maxRecDepth 100000 in
set_option maxHeartbeats 2000000 in
theorem nf_impl (w : World) :
    Calls Tryz.prog 43 #[] w fun e w' => e = .returned (.agg #[.int .i64 404, .int .i64 1, .string ⟨#[]⟩, .int .i64 0, .bool false, .string ⟨#[]⟩]) ∧ Grw w w' := by
  go_enter Tryz.func43, Tryz.ntmps43
  go_wp2_with fail
  refine bodyPost_ret (v := .agg #[.int .i64 404, .int .i64 1, .string ⟨#[]⟩, .int .i64 0, .bool false, .string ⟨#[]⟩]) (by simp [results, Tryz.results43, go_sem]) rfl ⟨rfl, ?_⟩
  repeat' (first | (with_reducible exact Grw.refl _) | (with_reducible refine Grw.alloc ?_ _))

end Go.Proofs.YtkjjiinccljhjaaGreatDoor
namespace Go.Proofs.YtkjjiinccljhjaaGreatDoor
open Go.ChangeShapes Go.WideShapes Go.ChangeAt Go.RowKit

def Making (k : IntKind) (e : TypeId) (zs : List Int) (w : World) (en : Ending) (w' : World) : Prop := ∃ v, en = .returned v ∧ Mine k e w.heap.size w w' v zs
theorem Mine.new {k : IntKind} {e : TypeId} {w w' : World} {v : Value} {zs : List Int} (h : Mine k e w.heap.size w w' v zs) : New k e zs w (.returned v) w' := ⟨v, rfl, h.own, h.below⟩

def cat (zs : Nat → List Int) : Nat → List Int
  | 0 => []
  | j + 1 => cat zs j ++ zs j
theorem cat_le (zs : Nat → List Int) (m : Nat) : ∀ j, j ≤ m → (cat zs j).length ≤ (cat zs m).length := by
  induction m with
  | zero => intro j h; have : j = 0 := by omega
            subst this; exact Nat.le_refl _
  | succ m ih =>
    intro j h
    by_cases e : j = m + 1
    · subst e; exact Nat.le_refl _
    · have := ih j (by omega); simp only [cat, List.length_append]; omega

end Go.Proofs.YtkjjiinccljhjaaGreatDoor
namespace Go.Proofs.YtkjjiinccljhjaaGreatDoor
open Go.ChangeShapes Go.WideShapes Go.ChangeAt Go.RowKit

end Go.Proofs.YtkjjiinccljhjaaGreatDoor
namespace Go.Proofs.YtkjjiinccljhjaaGreatDoor
open Go.ChangeShapes Go.WideShapes Go.ChangeAt Go.RowKit

/-- One step of the fold. -/
def hstep (a z : Int) : Int := (a * 1000003 + modI z 2147483647 + 13) % 2147483647
/-- The fold of the first k numbers. -/
def hashL (zs : List Int) : Nat → Int
  | 0 => 11
  | k + 1 => hstep (hashL zs k) (zs.getD k 0)
theorem modI_M (z : Int) : 0 ≤ modI z 2147483647 ∧ modI z 2147483647 < 2147483647 := by
  unfold modI; rw [if_pos (by omega)]; omega
theorem hstep_bd (a z : Int) : 0 ≤ hstep a z ∧ hstep a z < 2147483647 := by unfold hstep; omega
theorem hashL_bd (zs : List Int) (k : Nat) : 0 ≤ hashL zs k ∧ hashL zs k < 2147483647 := by
  cases k with
  | zero => simp [hashL]
  | succ k => exact hstep_bd _ _

set_option maxHeartbeats 1000000 in
theorem specHash_any (v : Value) (hi : Nat) (zs : List Int) (w : World) (hr : Reads .i64 hi w v zs) :
    Calls Tryz.prog 83 #[v] w fun e w' => e = .returned (.int .i64 (hashL zs zs.length)) ∧ w = w' := by
  obtain ⟨a, cap, rfl, h1, h2, -, hcells⟩ := hr
  have HC := Lib.hid hcells; clear hcells
  obtain ⟨n, hn⟩ : ∃ n, zs.length = n := ⟨_, rfl⟩
  rw [hn] at h1 HC ⊢
  go_enter Tryz.func83, Tryz.ntmps83
  go_wp2
  go_loop [3, 4] (fun d i => ∃ k : Nat, k ≤ n ∧ i = .int .i64 k ∧ d = .int .i64 (hashL zs k)) (fun _ i => n - (intOf i).toNat)
  case atStart => exact ⟨0, Nat.zero_le _, rfl, rfl⟩
  case round =>
    obtain ⟨k, hk, rfl, rfl⟩ := hrel
    obtain ⟨D, hD⟩ : ∃ D, hashL zs k = D := ⟨_, rfl⟩
    have hd := hashL_bd zs k
    rw [hD] at hd ⊢
    obtain ⟨hd0, hd1⟩ := hd
    have HD := Lib.hid hD; clear hD
    by_cases hlt : (k : Int) < (n : Int)
    · rcases HC.out with h0 | ⟨g, off, rfl, hg, hcells⟩
      · omega
      · have c1 : w.cell? ⟨g, off + k, none⟩ = some (.int .i64 (zs.getD k 0)) := hcells k (by omega)
        obtain ⟨z, hz⟩ : ∃ z, zs.getD k 0 = z := ⟨_, rfl⟩
        rw [hz] at c1
        have HZ := Lib.hid hz
        clear hcells hz
        go_wp2_with fail
        refine (mod_spec z 2147483647 w).mono ?_
        rintro e w1 ⟨rfl, rfl⟩
        obtain ⟨m, hm⟩ : ∃ m, modI z 2147483647 = m := ⟨_, rfl⟩
        have hmb := modI_M z
        rw [hm] at hmb ⊢
        obtain ⟨hm0, hm1⟩ := hmb
        have HE := Lib.hid (show hashL zs (k + 1) = (D * 1000003 + m + 13) % 2147483647 by simp only [hashL, hstep]; rw [HD.out, HZ.out, hm])
        clear hm
        go_wp2
        go_round
        case rel => exact ⟨k + 1, by omega, by go_num, by rw [HE.out]⟩
        case measure => simp [intOf]; omega
    · have hkn : k = n := by omega
      subst hkn
      go_wp2
      go_ret
      exact ⟨by rw [HD.out]; rfl, rfl⟩

set_option maxHeartbeats 1000000 in
theorem implHash_any (v : Value) (hi : Nat) (zs : List Int) (w : World) (hr : Reads .i64 hi w v zs) :
    Calls Tryz.prog 93 #[v] w fun e w' => e = .returned (.int .i64 (hashL zs zs.length)) ∧ w = w' := by
  obtain ⟨a, cap, rfl, h1, h2, -, hcells⟩ := hr
  have HC := Lib.hid hcells; clear hcells
  obtain ⟨n, hn⟩ : ∃ n, zs.length = n := ⟨_, rfl⟩
  rw [hn] at h1 HC ⊢
  go_enter Tryz.func93, Tryz.ntmps93
  go_wp2
  go_loop [3, 8] (fun d i => ∃ k : Nat, k ≤ n ∧ i = .int .i64 k ∧ d = .int .i64 (hashL zs k)) (fun _ i => n - (intOf i).toNat)
  case atStart => exact ⟨0, Nat.zero_le _, rfl, rfl⟩
  case round =>
    obtain ⟨k, hk, rfl, rfl⟩ := hrel
    obtain ⟨D, hD⟩ : ∃ D, hashL zs k = D := ⟨_, rfl⟩
    have hd := hashL_bd zs k
    rw [hD] at hd ⊢
    obtain ⟨hd0, hd1⟩ := hd
    have HD := Lib.hid hD; clear hD
    by_cases hlt : (k : Int) < (n : Int)
    · rcases HC.out with h0 | ⟨g, off, rfl, hg, hcells⟩
      · omega
      · have c1 : w.cell? ⟨g, off + k, none⟩ = some (.int .i64 (zs.getD k 0)) := hcells k (by omega)
        obtain ⟨z, hz⟩ : ∃ z, zs.getD k 0 = z := ⟨_, rfl⟩
        rw [hz] at c1
        have HZ := Lib.hid hz
        clear hcells hz
        go_wp2_with fail
        refine (mod_impl z 2147483647 w).mono ?_
        rintro e w1 ⟨rfl, rfl⟩
        obtain ⟨m, hm⟩ : ∃ m, modI z 2147483647 = m := ⟨_, rfl⟩
        have hmb := modI_M z
        rw [hm] at hmb ⊢
        obtain ⟨hm0, hm1⟩ := hmb
        have HE := Lib.hid (show hashL zs (k + 1) = (D * 1000003 + m + 13) % 2147483647 by simp only [hashL, hstep]; rw [HD.out, HZ.out, hm])
        clear hm
        go_wp2
        go_round
        case rel => exact ⟨k + 1, by omega, by go_num, by rw [HE.out]⟩
        case measure => simp [intOf]; omega
    · have hkn : k = n := by omega
      subst hkn
      go_wp2
      go_ret
      exact ⟨by rw [HD.out]; rfl, rfl⟩

end Go.Proofs.YtkjjiinccljhjaaGreatDoor
namespace Go.Proofs.YtkjjiinccljhjaaGreatDoor
open Go.ChangeShapes Go.WideShapes Go.ChangeAt Go.RowKit

/-- The keyed hash: the fold of the key, the numbers, the key. -/
def kh (k : Int) (zs : List Int) : Int := hashL (k :: (zs ++ [k])) (k :: (zs ++ [k])).length
theorem kh_bd (k : Int) (zs : List Int) : 0 ≤ kh k zs ∧ kh k zs < 2147483647 := hashL_bd _ _

/-- A literal of one number is the call's own. -/
theorem Mine.lit {k : IntKind} {e : TypeId} {w0 w : World} {B : Nat} (x : Int) (hb : Below B w0 w) (hB : B ≤ w.heap.size) : Mine k e B w0 (w.alloc (.cells #[.int k x] e)) (.slice (some ⟨w.heap.size, 0, none⟩) 1 1) [x] :=
  ⟨World.ownsRow_lit (base := B) (e := e) (size := 1) w #[.int k x] 1 hB (by decide) rfl, hb.alloc hB _, by simp; omega⟩

theorem take_moreK {zs : List Int} {k : Nat} (h : k < zs.length) : zs.take (k + 1) = zs.take k ++ [zs.getD k 0] := by
  rw [List.take_add_one, getD_at h]; rfl
/-- The length, then the numbers. -/
def b2i (zs : List Int) : List Int := (zs.length : Int) :: zs
theorem b2i_len (zs : List Int) : (b2i zs).length = zs.length + 1 := rfl

set_option maxHeartbeats 1000000 in
theorem specB2I_any (v : Value) (hi : Nat) (zs : List Int) (w : World) (hr : Reads .u8 hi w v zs) (hh : hi ≤ w.heap.size) (hzb : Bytes zs) (hl : zs.length ≤ 1099511627776) :
    Calls Tryz.prog 84 #[v] w (New .i64 3 (b2i zs) w) := by
  obtain ⟨i0, hi0, hz0, hz1, hz2⟩ := info_parts info64
  obtain ⟨a, cap, rfl, h1, h2, -, hcells⟩ := hr
  have HC := Lib.hid hcells; have HZB := Lib.hid hzb; clear hcells hzb
  obtain ⟨n, hn⟩ : ∃ n, zs.length = n := ⟨_, rfl⟩
  have HBI := Lib.hid (show b2i zs = (n : Int) :: zs.take n by unfold b2i; rw [← hn, List.take_length])
  rw [hn] at h1 hl HC ⊢
  have HN := Lib.hid hn; clear hn
  have HM := Lib.hid (Mine.lit (k := .i64) (e := 3) (n : Int) (Below.refl w.heap.size w) (Nat.le_refl _))
  go_enter Tryz.func84, Tryz.ntmps84
  go_wp2
  go_loopw [3, 4] (fun v i wr => ∃ k : Nat, k ≤ n ∧ i = .int .i64 k ∧ Mine .i64 3 w.heap.size w wr v ((n : Int) :: zs.take k)) (fun _ i _ => n - (intOf i).toNat)
  case atStart => exact ⟨0, Nat.zero_le _, rfl, HM.out⟩
  case round =>
    obtain ⟨k, hk, rfl, hmine⟩ := hrel
    have HMI := Lib.hid hmine; clear hmine HM
    by_cases hlt : (k : Int) < (n : Int)
    · rcases HC.out with h0 | ⟨g, off, rfl, hg, hcells⟩
      · omega
      · have c1 : wr.cell? ⟨g, off + k, none⟩ = some (.int .u8 (zs.getD k 0)) := by rw [HMI.out.below.cell (show g < w.heap.size by omega)]; exact hcells k (by omega)
        obtain ⟨z0, z1⟩ := HZB.out.at k
        have hmore := take_moreK (zs := zs) (k := k) (by have := HN.out; omega)
        obtain ⟨z, hz⟩ : ∃ z, zs.getD k 0 = z := ⟨_, rfl⟩
        rw [hz] at c1 z0 z1 hmore
        have HT := Lib.hid hmore
        clear hcells hz hmore
        go_wp2_with (at_builtin; refine wpList_app rfl _ _ 71 rfl .i64 3 i0 (.int .i64 0) 8 Tryz.underlying71 hi0 hz0 hz1 hz2 rfl w.heap.size w _ ((n : Int) :: zs.take k) rfl (HMI.out.alloc _) _ _ [z] rfl (reads_one _ _ _ rfl) (by decide) ?c3 ?_)
        case c3 => simp; omega
        intro v' w2 hm2
        have HM2 := Lib.hid (show Mine .i64 3 w.heap.size w w2 v' ((n : Int) :: zs.take (k + 1)) by rw [HT.out]; exact hm2)
        clear hm2
        go_wp2
        go_roundw
        case rel => exact ⟨k + 1, by omega, by go_num, HM2.out⟩
        case measure => simp [intOf]; omega
    · have hkn : k = n := by omega
      subst hkn
      go_wp2
      go_ret
      rw [HBI.out]
      exact ⟨_, rfl, HMI.out.own, HMI.out.below⟩

set_option maxHeartbeats 1000000 in
theorem implB2I_any (v : Value) (hi : Nat) (zs : List Int) (w : World) (hr : Reads .u8 hi w v zs) (hh : hi ≤ w.heap.size) (hzb : Bytes zs) (hl : zs.length ≤ 1099511627776) :
    Calls Tryz.prog 94 #[v] w (New .i64 3 (b2i zs) w) := by
  obtain ⟨i0, hi0, hz0, hz1, hz2⟩ := info_parts info64
  obtain ⟨a, cap, rfl, h1, h2, -, hcells⟩ := hr
  have HC := Lib.hid hcells; have HZB := Lib.hid hzb; clear hcells hzb
  obtain ⟨n, hn⟩ : ∃ n, zs.length = n := ⟨_, rfl⟩
  have HBI := Lib.hid (show b2i zs = (n : Int) :: zs.take n by unfold b2i; rw [← hn, List.take_length])
  rw [hn] at h1 hl HC ⊢
  have HN := Lib.hid hn; clear hn
  have HM := Lib.hid (Mine.lit (k := .i64) (e := 3) (n : Int) (Below.refl w.heap.size w) (Nat.le_refl _))
  go_enter Tryz.func94, Tryz.ntmps94
  go_wp2
  go_loopw [3, 11] (fun v i wr => ∃ k : Nat, k ≤ n ∧ i = .int .i64 k ∧ Mine .i64 3 w.heap.size w wr v ((n : Int) :: zs.take k)) (fun _ i _ => n - (intOf i).toNat)
  case atStart => exact ⟨0, Nat.zero_le _, rfl, HM.out⟩
  case round =>
    obtain ⟨k, hk, rfl, hmine⟩ := hrel
    have HMI := Lib.hid hmine; clear hmine HM
    by_cases hlt : (k : Int) < (n : Int)
    · rcases HC.out with h0 | ⟨g, off, rfl, hg, hcells⟩
      · omega
      · have c1 : wr.cell? ⟨g, off + k, none⟩ = some (.int .u8 (zs.getD k 0)) := by rw [HMI.out.below.cell (show g < w.heap.size by omega)]; exact hcells k (by omega)
        obtain ⟨z0, z1⟩ := HZB.out.at k
        have hmore := take_moreK (zs := zs) (k := k) (by have := HN.out; omega)
        obtain ⟨z, hz⟩ : ∃ z, zs.getD k 0 = z := ⟨_, rfl⟩
        rw [hz] at c1 z0 z1 hmore
        have HT := Lib.hid hmore
        clear hcells hz hmore
        go_wp2_with (at_builtin; refine wpList_app rfl _ _ 71 rfl .i64 3 i0 (.int .i64 0) 8 Tryz.underlying71 hi0 hz0 hz1 hz2 rfl w.heap.size w _ ((n : Int) :: zs.take k) rfl (HMI.out.alloc _) _ _ [z] rfl (reads_one _ _ _ rfl) (by decide) ?c3 ?_)
        case c3 => simp; omega
        intro v' w2 hm2
        have HM2 := Lib.hid (show Mine .i64 3 w.heap.size w w2 v' ((n : Int) :: zs.take (k + 1)) by rw [HT.out]; exact hm2)
        clear hm2
        go_wp2
        go_roundw
        case rel => exact ⟨k + 1, by omega, by go_num, HM2.out⟩
        case measure => simp [intOf]; omega
    · have hkn : k = n := by omega
      subst hkn
      go_wp2
      go_ret
      rw [HBI.out]
      exact ⟨_, rfl, HMI.out.own, HMI.out.below⟩

end Go.Proofs.YtkjjiinccljhjaaGreatDoor
namespace Go.Proofs.YtkjjiinccljhjaaGreatDoor
open Go.ChangeShapes Go.WideShapes Go.ChangeAt Go.RowKit

/-- A string's bytes as numbers. -/
def sbytes (s : ByteArray) : List Int := s.data.toList.map fun b => (b.toNat : Int)
theorem sbytes_len (s : ByteArray) : (sbytes s).length = s.size := by
  simp [sbytes]
theorem sbytes_bytes (s : ByteArray) : Bytes (sbytes s) := by
  intro z hz
  simp only [sbytes, List.mem_map] at hz
  obtain ⟨b, _, rfl⟩ := hz
  have := b.toNat_lt
  omega
theorem reads_conv_of (s : ByteArray) (w : World) (c : Nat) (f : Nat × Nat) (h1 : s.size ≤ c) (h2 : c ≤ 9223372036854775807) :
    Reads .u8 (w.heap.size + 1) (w.alloc (.cells (bytesRow s c) 5 f)) (.slice (some ⟨w.heap.size, 0, none⟩) s.size c) (sbytes s) := by
  refine ⟨some ⟨w.heap.size, 0, none⟩, c, by rw [sbytes_len], by rw [sbytes_len]; exact h1, h2, (fun h => by cases h), Or.inr ⟨w.heap.size, 0, rfl, by omega, fun j hj => ?_⟩⟩
  rw [sbytes_len] at hj
  have h3 : (w.alloc (.cells (bytesRow s c) 5 f)).heap[w.heap.size]? = some (.cells (bytesRow s c) 5 f) := by
    show (w.heap.push _)[w.heap.size]? = _
    simp
  have hj2 : j < s.data.size := hj
  have h4 : (bytesRow s c)[j]? = some (.int .u8 (s.data[j].toNat : Int)) := by
    unfold bytesRow
    rw [Array.getElem?_append_left (by simpa using hj2), Array.getElem?_map, Array.getElem?_eq_getElem hj2]
    rfl
  have h5 : (sbytes s).getD j 0 = (s.data[j].toNat : Int) := by
    rw [List.getD_eq_getElem?_getD]
    simp only [sbytes, List.getElem?_map, Array.getElem?_toList, Array.getElem?_eq_getElem hj2]
    rfl
  rw [h5, Nat.zero_add]
  unfold World.cell?
  rw [h3]
  simpa using h4

/-- A string's bytes in a new slice: of what lay in memory nothing is written. -/
theorem conv_below (w : World) (o : Obj) : Below w.heap.size w (w.drew.alloc o) := (Below.refl _ _).drew.alloc (Nat.le_refl _) _

def derive (k : Int) (s : ByteArray) : Int := maxI 1 (kh k (b2i (sbytes s)))
theorem derive_zero {k : Int} {s : ByteArray} (h : kh k (b2i (sbytes s)) = 0) : derive k s = 1 := by unfold derive maxI; rw [h]; rfl
theorem derive_else {k : Int} {s : ByteArray} (h : ¬ kh k (b2i (sbytes s)) = 0) : derive k s = kh k (b2i (sbytes s)) := by
  have := kh_bd k (b2i (sbytes s))
  unfold derive maxI
  split <;> omega
theorem derive_bd (k : Int) (s : ByteArray) : 1 ≤ derive k s ∧ derive k s ≤ 2147483646 := by
  have := kh_bd k (b2i (sbytes s))
  unfold derive maxI
  split <;> omega

end Go.Proofs.YtkjjiinccljhjaaGreatDoor
namespace Go.Proofs.YtkjjiinccljhjaaGreatDoor
open Go.ChangeShapes Go.WideShapes Go.ChangeAt Go.RowKit

/-- The digest: the fold of the label and the body's bytes with their number. -/
def digL (s : ByteArray) : List Int := 151 :: b2i (sbytes s)
def digN (s : ByteArray) : Int := hashL (digL s) (digL s).length
theorem digN_bd (s : ByteArray) : 0 ≤ digN s ∧ digN s < 2147483647 := hashL_bd _ _

set_option maxRecDepth 100000 in
set_option maxHeartbeats 2000000 in
theorem dig_spec (s : ByteArray) (w : World) (hl : s.size ≤ 1048576) :
    Calls Tryz.prog 20 #[.string s] w fun e w' => e = .returned (.int .i64 (digN s)) ∧ Below w.heap.size w w' := by
  obtain ⟨i0, hi0, hz0, hz1, hz2⟩ := info_parts info64
  have HK := Lib.hid (show digN s = hashL (151 :: b2i (sbytes s)) (151 :: b2i (sbytes s)).length from rfl)
  have HM0 := Lib.hid (Mine.lit (k := .i64) (e := 3) 151 (Below.refl w.heap.size w) (Nat.le_refl _))
  obtain ⟨W0, hW0⟩ : ∃ x, w.alloc (.cells #[.int .i64 151] 3) = x := ⟨_, rfl⟩
  have hs0 : W0.heap.size = w.heap.size + 1 := by rw [← hW0]; simp
  rw [hW0] at HM0
  have hcv := run_bytes_of_string (P := Tryz.prog) W0 9 22 5 s Tryz.underlying9 Tryz.underlying22 Tryz.underlying5
  have hc1 : s.size ≤ grownCap W0 s.size 0 5 := grownCap_ge _ _ _ _
  have hc2 : grownCap W0 s.size 0 5 ≤ maxLen := grownCap_le_maxLen _ _ _ _ (by unfold maxLen; omega)
  unfold maxLen at hc2
  obtain ⟨c, hc⟩ : ∃ c, grownCap W0 s.size 0 5 = c := ⟨_, rfl⟩
  rw [hc] at hcv hc1 hc2
  have HRD := Lib.hid (reads_conv_of s W0.drew c ((bytesRow s c).size, (bytesRow s c).size + 1) hc1 hc2)
  have HBD := Lib.hid (conv_below W0 (.cells (bytesRow s c) 5 ((bytesRow s c).size, (bytesRow s c).size + 1)))
  obtain ⟨w1, hw1⟩ : ∃ w1, W0.drew.alloc (.cells (bytesRow s c) 5 ((bytesRow s c).size, (bytesRow s c).size + 1)) = w1 := ⟨_, rfl⟩
  have hs1 : w1.heap.size = W0.heap.size + 1 := by rw [← hw1]; show (W0.heap.push _).size = _; simp
  have HS1 := Lib.hid (show w1.heap.size = w.heap.size + 1 + 1 by rw [hs1, hs0])
  have HRE := Lib.hid (show Reads .u8 (w.heap.size + 1 + 1) w1 (.slice (some ⟨w.heap.size + 1, 0, none⟩) s.size c) (sbytes s) by have h := HRD.out; rw [hw1] at h; rw [← hs0]; exact h)
  rw [hw1] at hcv HBD
  rw [hs0, ← hW0] at hcv
  have HM1 := Lib.hid (HM0.out.later HBD.out)
  clear hc hw1 hs1 hW0 hs0 HRD
  go_enter Tryz.func20, Tryz.ntmps20
  go_wp2_with fail
  refine (specB2I_any _ (w.heap.size + 1 + 1) (sbytes s) w1 HRE.out (by rw [HS1.out]; exact Nat.le_refl _) (sbytes_bytes s) (by rw [sbytes_len]; omega)).mono ?_
  rintro e w2 ⟨v2, rfl, ho2, hb2⟩
  have HO2 := Lib.hid ho2; have HM2 := Lib.hid (HM1.out.later hb2); clear ho2 hb2
  go_wp2_with (at_builtin; refine wpList_app rfl _ _ 71 rfl .i64 3 i0 (.int .i64 0) 8 Tryz.underlying71 hi0 hz0 hz1 hz2 rfl w.heap.size w _ [151] rfl HM2.out _ _ (b2i (sbytes s)) rfl HO2.out.reads (by decide) ?c3 ?_)
  case c3 => rw [b2i_len, sbytes_len]; simp; omega
  intro v3 w3 hm3
  have HM3 := Lib.hid hm3; clear hm3
  go_wp2_with fail
  refine (specHash_any _ w3.heap.size (151 :: b2i (sbytes s)) w3 HM3.out.own.reads).mono ?_
  rintro e w4 ⟨rfl, rfl⟩
  rw [← HK.out]
  go_wp2
  go_ret
  exact ⟨rfl, HM3.out.below⟩

set_option maxRecDepth 100000 in
set_option maxHeartbeats 2000000 in
theorem dig_impl (s : ByteArray) (w : World) (hl : s.size ≤ 1048576) :
    Calls Tryz.prog 35 #[.string s] w fun e w' => e = .returned (.int .i64 (digN s)) ∧ Below w.heap.size w w' := by
  obtain ⟨i0, hi0, hz0, hz1, hz2⟩ := info_parts info64
  have HK := Lib.hid (show digN s = hashL (151 :: b2i (sbytes s)) (151 :: b2i (sbytes s)).length from rfl)
  have HM0 := Lib.hid (Mine.lit (k := .i64) (e := 3) 151 (Below.refl w.heap.size w) (Nat.le_refl _))
  obtain ⟨W0, hW0⟩ : ∃ x, w.alloc (.cells #[.int .i64 151] 3) = x := ⟨_, rfl⟩
  have hs0 : W0.heap.size = w.heap.size + 1 := by rw [← hW0]; simp
  rw [hW0] at HM0
  have hcv := run_bytes_of_string (P := Tryz.prog) W0 9 22 5 s Tryz.underlying9 Tryz.underlying22 Tryz.underlying5
  have hc1 : s.size ≤ grownCap W0 s.size 0 5 := grownCap_ge _ _ _ _
  have hc2 : grownCap W0 s.size 0 5 ≤ maxLen := grownCap_le_maxLen _ _ _ _ (by unfold maxLen; omega)
  unfold maxLen at hc2
  obtain ⟨c, hc⟩ : ∃ c, grownCap W0 s.size 0 5 = c := ⟨_, rfl⟩
  rw [hc] at hcv hc1 hc2
  have HRD := Lib.hid (reads_conv_of s W0.drew c ((bytesRow s c).size, (bytesRow s c).size + 1) hc1 hc2)
  have HBD := Lib.hid (conv_below W0 (.cells (bytesRow s c) 5 ((bytesRow s c).size, (bytesRow s c).size + 1)))
  obtain ⟨w1, hw1⟩ : ∃ w1, W0.drew.alloc (.cells (bytesRow s c) 5 ((bytesRow s c).size, (bytesRow s c).size + 1)) = w1 := ⟨_, rfl⟩
  have hs1 : w1.heap.size = W0.heap.size + 1 := by rw [← hw1]; show (W0.heap.push _).size = _; simp
  have HS1 := Lib.hid (show w1.heap.size = w.heap.size + 1 + 1 by rw [hs1, hs0])
  have HRE := Lib.hid (show Reads .u8 (w.heap.size + 1 + 1) w1 (.slice (some ⟨w.heap.size + 1, 0, none⟩) s.size c) (sbytes s) by have h := HRD.out; rw [hw1] at h; rw [← hs0]; exact h)
  rw [hw1] at hcv HBD
  rw [hs0, ← hW0] at hcv
  have HM1 := Lib.hid (HM0.out.later HBD.out)
  clear hc hw1 hs1 hW0 hs0 HRD
  go_enter Tryz.func35, Tryz.ntmps35
  go_wp2_with fail
  refine (implB2I_any _ (w.heap.size + 1 + 1) (sbytes s) w1 HRE.out (by rw [HS1.out]; exact Nat.le_refl _) (sbytes_bytes s) (by rw [sbytes_len]; omega)).mono ?_
  rintro e w2 ⟨v2, rfl, ho2, hb2⟩
  have HO2 := Lib.hid ho2; have HM2 := Lib.hid (HM1.out.later hb2); clear ho2 hb2
  go_wp2_with (at_builtin; refine wpList_app rfl _ _ 71 rfl .i64 3 i0 (.int .i64 0) 8 Tryz.underlying71 hi0 hz0 hz1 hz2 rfl w.heap.size w _ [151] rfl HM2.out _ _ (b2i (sbytes s)) rfl HO2.out.reads (by decide) ?c3 ?_)
  case c3 => rw [b2i_len, sbytes_len]; simp; omega
  intro v3 w3 hm3
  have HM3 := Lib.hid hm3; clear hm3
  go_wp2_with fail
  refine (implHash_any _ w3.heap.size (151 :: b2i (sbytes s)) w3 HM3.out.own.reads).mono ?_
  rintro e w4 ⟨rfl, rfl⟩
  rw [← HK.out]
  go_wp2
  go_ret
  exact ⟨rfl, HM3.out.below⟩

end Go.Proofs.YtkjjiinccljhjaaGreatDoor
namespace Go.Proofs.YtkjjiinccljhjaaGreatDoor
open Go.ChangeShapes Go.WideShapes Go.ChangeAt Go.RowKit

def digF (u : Nat) : UInt8 := UInt8.ofNat (48 + u % 10)
def ddF (u : Nat) : List UInt8 := if u = 0 then [] else Lib.decDigits u
theorem dd_zeroF : ddF 0 = [] := rfl
theorem dd_posF {u : Nat} (h : u ≠ 0) : ddF u = Lib.decDigits u := by unfold ddF; rw [if_neg h]
theorem dd_stepF {u : Nat} (h : u ≠ 0) : ddF u = ddF (u / 10) ++ [digF u] := by
  rw [dd_posF h, Lib.decDigits]
  by_cases h1 : u < 10
  · rw [dif_pos h1, show u / 10 = 0 by omega, dd_zeroF]; unfold digF; rw [show u % 10 = u by omega]; rfl
  · rw [dif_neg h1, dd_posF (by omega)]; rfl
theorem dec_lenF (u : Nat) (h : u < 18446744073709551616) : (Lib.decDigits u).length ≤ 20 := by
  rw [Lib.decDigits_length]
  by_cases h0 : u = 0
  · subst h0; rw [Lib.nDigits_small (by decide)]; decide
  · have h1 := Lib.nDigits_unique
    have h2 : Lib.nDigits u ≤ 20 := by
      have hp := Lib.nDigits_pos u
      by_cases h3 : Lib.nDigits u ≤ 20
      · exact h3
      · exfalso
        have := (Lib.numDigits_eq u (by omega) h)
        obtain ⟨e, l⟩ := this
        split at e <;> omega
    exact h2
theorem conv1F (W : World) (c : Int) (h0 : 0 ≤ c) (h1 : c < 256) :
    (convert 22 9 (.slice (some ⟨W.heap.size, 0, none⟩) 1 1)).run Tryz.prog (W.alloc (.cells #[.int .u8 c] 5)) = .ok (.string ⟨#[UInt8.ofNat c.toNat]⟩) (W.alloc (.cells #[.int .u8 c] 5)) := by
  have := run_convert_bytes_back (P := Tryz.prog) (W.alloc (.cells #[.int .u8 c] 5)) 22 9 5 ⟨W.heap.size, 0, none⟩ 1 [UInt8.ofNat c.toNat] Tryz.underlying22 Tryz.underlying5 Tryz.underlying9 (by
    intro j hj
    simp at hj
    subst hj
    have h2 : ((UInt8.ofNat c.toNat).toNat : Int) = c := by
      simp; omega
    simp only [Addr.add, List.getElem_cons_zero, h2]
    simp [go_sem])
  simpa using this

theorem digit_eqF (u : Nat) : UInt8.ofNat (48 + (u : Int) % 10).toNat = digF u := by
  rw [show (48 + (u : Int) % 10).toNat = 48 + u % 10 from by omega]; rfl
theorem digit_eq' (u : Nat) (h : u % 10 = 0) : UInt8.ofNat (48 + -((u : Int) % 10)).toNat = digF u := by
  rw [show (48 + -((u : Int) % 10)).toNat = 48 + u % 10 from by omega]; rfl
theorem cat1F (c : UInt8) (t : List UInt8) : (ByteArray.mk #[c] ++ ByteArray.mk t.toArray) = ByteArray.mk (c :: t).toArray := by
  apply ByteArray.ext; simp [ByteArray.data_append]
theorem len_tF {m u : Nat} {t : List UInt8} (h : ddF u ++ t = Lib.decDigits m) (hm : m < 18446744073709551616) : t.length ≤ 20 := by
  have h1 := dec_lenF m hm
  rw [← h, List.length_append] at h1
  omega

set_option maxRecDepth 100000 in
set_option maxHeartbeats 2000000 in
theorem fmt_pos (m : Nat) (hm : m ≠ 0) (hb : m ≤ 9223372036854775807) (w : World) :
    Calls Tryz.prog 19 #[.int .i64 m] w fun e w' => e = .returned (.string ⟨(Lib.decDigits m).toArray⟩) ∧ Below w.heap.size w w' := by
  have h0 : ((m : Int) == 0) = false := by simp; omega
  go_enter Tryz.func19, Tryz.ntmps19
  go_wp2
  go_loopw [3, 4] (fun s x wr => ∃ (u : Nat) (t : List UInt8), x = .int .i64 u ∧ s = .string ⟨t.toArray⟩ ∧ ddF u ++ t = Lib.decDigits m ∧ u ≤ m ∧ Below w.heap.size w wr) (fun _ x _ => (intOf x).toNat)
  case atStart => exact ⟨m, [], rfl, rfl, by rw [dd_posF hm]; simp, Nat.le_refl _, Below.refl _ _⟩
  case round =>
    obtain ⟨u, t, rfl, rfl, ht, hu, hbl⟩ := hrel
    have htl := len_tF ht (by omega)
    by_cases hz : u = 0
    · subst hz
      rw [dd_zeroF, List.nil_append] at ht
      have HT := Lib.hid ht; clear ht
      go_wp2
      go_ret
      exact ⟨by rw [HT.out]; rfl, hbl⟩
    · rw [dd_stepF hz, List.append_assoc] at ht
      have HT := Lib.hid ht; clear ht
      have hnz : ((u : Int) != 0) = true := by simp; omega
      have hcv := conv1F wr (48 + (u : Int) % 10) (by omega) (by omega)
      rw [digit_eqF] at hcv
      have hsz := hbl.size
      go_wp2
      go_roundw
      case rel => exact ⟨u / 10, digF u :: t, by go_num, by rw [cat1F], by rw [← HT.out]; simp, by omega, hbl.alloc hsz _⟩
      case measure => simp [intOf]; omega

set_option maxRecDepth 100000 in
set_option maxHeartbeats 2000000 in
theorem fmt_neg (m : Nat) (hm : m ≠ 0) (hb : m ≤ 9223372036854775808) (w : World) :
    Calls Tryz.prog 19 #[.int .i64 (-(m : Int))] w fun e w' => e = .returned (.string ⟨(45 :: Lib.decDigits m).toArray⟩) ∧ Below w.heap.size w w' := by
  have h0 : ((-(m : Int)) == 0) = false := by simp; omega
  go_enter Tryz.func19, Tryz.ntmps19
  go_wp2
  go_loopw [3, 4] (fun s x wr => ∃ (u : Nat) (t : List UInt8), x = .int .i64 (-(u : Int)) ∧ s = .string ⟨t.toArray⟩ ∧ ddF u ++ t = Lib.decDigits m ∧ u ≤ m ∧ Below w.heap.size w wr) (fun _ x _ => (-(intOf x)).toNat)
  case atStart => exact ⟨m, [], rfl, rfl, by rw [dd_posF hm]; simp, Nat.le_refl _, Below.refl _ _⟩
  case round =>
    obtain ⟨u, t, rfl, rfl, ht, hu, hbl⟩ := hrel
    have htl := len_tF ht (by omega)
    by_cases hz : u = 0
    · subst hz
      rw [dd_zeroF, List.nil_append] at ht
      have HT := Lib.hid ht; clear ht
      go_wp2
      go_ret
      exact ⟨by rw [HT.out]; rfl, hbl⟩
    · rw [dd_stepF hz, List.append_assoc] at ht
      have HT := Lib.hid ht; clear ht
      have hnz : ((-(u : Int)) != 0) = true := by simp; omega
      have hsz := hbl.size
      by_cases hd : 0 < (u : Int) % 10
      · have hcv := conv1F wr (48 + (u : Int) % 10) (by omega) (by omega)
        rw [digit_eqF] at hcv
        go_wp2
        go_roundw
        case rel => exact ⟨u / 10, digF u :: t, by go_num, by rw [cat1F], by rw [← HT.out]; simp, by omega, hbl.alloc hsz _⟩
        case measure => simp [intOf]; omega
      · have hcv := conv1F wr (48 + -((u : Int) % 10)) (by omega) (by omega)
        rw [digit_eq' u (by omega)] at hcv
        go_wp2
        go_roundw
        case rel => exact ⟨u / 10, digF u :: t, by go_num, by rw [cat1F], by rw [← HT.out]; simp, by omega, hbl.alloc hsz _⟩
        case measure => simp [intOf]; omega

theorem fmt_zero (w : World) :
    Calls Tryz.prog 19 #[.int .i64 0] w fun e w' => e = .returned (.string ⟨#[48]⟩) ∧ Below w.heap.size w w' := by
  go_enter Tryz.func19, Tryz.ntmps19
  go_wp2
  go_ret
  exact ⟨rfl, Below.refl _ _⟩

def fmtS (n : Int) : ByteArray := ⟨(Lib.itoa n).toArray⟩
theorem fmt_spec (n : Int) (h1 : -9223372036854775808 ≤ n) (h2 : n ≤ 9223372036854775807) (w : World) :
    Calls Tryz.prog 19 #[.int .i64 n] w fun e w' => e = .returned (.string (fmtS n)) ∧ Below w.heap.size w w' := by
  unfold fmtS Lib.itoa
  by_cases h : n < 0
  · obtain ⟨m, rfl⟩ : ∃ m : Nat, n = -(m : Int) := ⟨n.natAbs, by omega⟩
    rw [if_pos h, show (-(m : Int)).natAbs = m by omega]
    exact fmt_neg m (by omega) (by omega) w
  · obtain ⟨m, rfl⟩ : ∃ m : Nat, n = (m : Int) := ⟨n.natAbs, by omega⟩
    rw [if_neg h, Int.toNat_natCast]
    by_cases h0 : m = 0
    · subst h0
      refine (fmt_zero w).mono fun e w' ⟨he, hb⟩ => ⟨?_, hb⟩
      rw [he, Lib.decDigits_one (by decide)]
      rfl
    · exact fmt_pos m h0 (by omega) w

end Go.Proofs.YtkjjiinccljhjaaGreatDoor
namespace Go.Proofs.YtkjjiinccljhjaaGreatDoor
open Go.ChangeShapes Go.WideShapes Go.ChangeAt Go.RowKit

theorem fmt_impl (n : Int) (h0 : -9223372036854775808 ≤ n) (h1 : n ≤ 9223372036854775807) (w : World) (htab : Lib.TabIs Tryz.prog w "internal/strconv.uint64pow10" .u64 Lib.pow10Tab) :
    Calls Tryz.prog 96 #[.int .i64 n] w fun e w' => e = .returned (.string (fmtS n)) ∧ Below w.heap.size w w' := by
  go_enter Tryz.func96, Tryz.ntmps96
  go_wp2_with (go_at_call 150; refine (Tryz.strconv_Itoa n h0 h1 _ htab).mono ?_; rintro e w' ⟨rfl, k, os, rfl⟩)
  go_ret
  exact ⟨rfl, Lib.below_grow _ _ (Nat.le_refl _) k os⟩

end Go.Proofs.YtkjjiinccljhjaaGreatDoor
namespace Go.Proofs.YtkjjiinccljhjaaGreatDoor
open Go.ChangeShapes Go.WideShapes Go.ChangeAt Go.RowKit

def chB (s v : ByteArray) : Bool := decide (v.size = 0) || decide (v = fmtS (digN s))
theorem empD_size (s : ByteArray) : (s.toList == []) = decide (s.size = 0) := by
  rw [ByteArray.toList_eq]
  by_cases h : s.size = 0
  · rw [decide_eq_true h, beq_iff_eq]; exact List.eq_nil_of_length_eq_zero (by rw [size_list]; exact h)
  · rw [decide_eq_false h]
    refine beq_eq_false_iff_ne.2 fun e => h ?_
    rw [← size_list, e]; rfl

set_option maxRecDepth 100000 in
set_option maxHeartbeats 2000000 in
theorem chk_spec (s v : ByteArray) (w : World) (hl : s.size ≤ 1048576) :
    Calls Tryz.prog 79 #[.string s, .string v] w fun e w' => e = .returned (.bool (chB s v)) ∧ Below w.heap.size w w' := by
  by_cases h0 : v.size = 0
  · have e1 : (v.toList == []) = true := by rw [empD_size, decide_eq_true h0]
    have HV := Lib.hid (show chB s v = true by unfold chB; rw [decide_eq_true h0]; rfl); clear h0
    go_enter Tryz.func79, Tryz.ntmps79
    go_wp2_with fail
    go_ret
    exact ⟨by rw [HV.out]; rfl, Below.refl _ _⟩
  · have e1 : (v.toList == []) = false := by rw [empD_size, decide_eq_false h0]
    have HD := Lib.hid (dig_spec s w hl)
    have hbd := digN_bd s
    have HC := Lib.hid (show chB s v = decide (v = fmtS (digN s)) by unfold chB; rw [decide_eq_false h0, Bool.false_or]); clear h0
    obtain ⟨D, hD⟩ : ∃ D, digN s = D := ⟨_, rfl⟩
    rw [hD] at HD HC hbd; clear hD
    have hd0 : -9223372036854775808 ≤ D := by omega
    have hd1 : D ≤ 9223372036854775807 := by omega
    by_cases h1 : v = fmtS D
    · have e2 : (v.toList == (fmtS D).toList) = true := beqL_yes h1
      rw [decide_eq_true h1] at HC; clear h1
      go_enter Tryz.func79, Tryz.ntmps79
      go_wp2_with fail
      refine HD.out.mono ?_
      rintro e w1 ⟨rfl, hb1⟩
      have HB1 := Lib.hid hb1; clear hb1
      go_wp2_with fail
      refine (fmt_spec D hd0 hd1 _).mono ?_
      rintro e w2 ⟨rfl, hb2⟩
      have HB2 := Lib.hid (HB1.out.trans (hb2.mono HB1.out.size)); clear hb2
      go_wp2_with fail
      go_ret
      exact ⟨by rw [HC.out]; rfl, HB2.out⟩
    · have e2 : (v.toList == (fmtS D).toList) = false := beqL_no h1
      rw [decide_eq_false h1] at HC; clear h1
      go_enter Tryz.func79, Tryz.ntmps79
      go_wp2_with fail
      refine HD.out.mono ?_
      rintro e w1 ⟨rfl, hb1⟩
      have HB1 := Lib.hid hb1; clear hb1
      go_wp2_with fail
      refine (fmt_spec D hd0 hd1 _).mono ?_
      rintro e w2 ⟨rfl, hb2⟩
      have HB2 := Lib.hid (HB1.out.trans (hb2.mono HB1.out.size)); clear hb2
      go_wp2_with fail
      go_ret
      exact ⟨by rw [HC.out]; rfl, HB2.out⟩

set_option maxRecDepth 100000 in
set_option maxHeartbeats 2000000 in
theorem chk_impl (s v : ByteArray) (w : World) (hl : s.size ≤ 1048576) (htab : Lib.TabIs Tryz.prog w "internal/strconv.uint64pow10" .u64 Lib.pow10Tab) :
    Calls Tryz.prog 38 #[.string s, .string v] w fun e w' => e = .returned (.bool (chB s v)) ∧ Below w.heap.size w w' := by
  have HT := Lib.hid (Lib.tabBelow_of_tabIs htab); clear htab
  by_cases h0 : v.size = 0
  · have e1 : (v.toList == []) = true := by rw [empD_size, decide_eq_true h0]
    have HV := Lib.hid (show chB s v = true by unfold chB; rw [decide_eq_true h0]; rfl); clear h0
    go_enter Tryz.func38, Tryz.ntmps38
    go_wp2_with fail
    go_ret
    exact ⟨by rw [HV.out]; rfl, Below.refl _ _⟩
  · have e1 : (v.toList == []) = false := by rw [empD_size, decide_eq_false h0]
    have HD := Lib.hid (dig_impl s w hl)
    have hbd := digN_bd s
    have HC := Lib.hid (show chB s v = decide (v = fmtS (digN s)) by unfold chB; rw [decide_eq_false h0, Bool.false_or]); clear h0
    obtain ⟨D, hD⟩ : ∃ D, digN s = D := ⟨_, rfl⟩
    rw [hD] at HD HC hbd; clear hD
    have hd0 : -9223372036854775808 ≤ D := by omega
    have hd1 : D ≤ 9223372036854775807 := by omega
    by_cases h1 : v = fmtS D
    · have e2 : (v.toList == (fmtS D).toList) = true := beqL_yes h1
      rw [decide_eq_true h1] at HC; clear h1
      go_enter Tryz.func38, Tryz.ntmps38
      go_wp2_with fail
      refine HD.out.mono ?_
      rintro e w1 ⟨rfl, hb1⟩
      have HB1 := Lib.hid hb1; clear hb1
      go_wp2_with fail
      refine (fmt_impl D hd0 hd1 _ (HT.out _ HB1.out)).mono ?_
      rintro e w2 ⟨rfl, hb2⟩
      have HB2 := Lib.hid (HB1.out.trans (hb2.mono HB1.out.size)); clear hb2
      go_wp2_with fail
      go_ret
      exact ⟨by rw [HC.out]; rfl, HB2.out⟩
    · have e2 : (v.toList == (fmtS D).toList) = false := beqL_no h1
      rw [decide_eq_false h1] at HC; clear h1
      go_enter Tryz.func38, Tryz.ntmps38
      go_wp2_with fail
      refine HD.out.mono ?_
      rintro e w1 ⟨rfl, hb1⟩
      have HB1 := Lib.hid hb1; clear hb1
      go_wp2_with fail
      refine (fmt_impl D hd0 hd1 _ (HT.out _ HB1.out)).mono ?_
      rintro e w2 ⟨rfl, hb2⟩
      have HB2 := Lib.hid (HB1.out.trans (hb2.mono HB1.out.size)); clear hb2
      go_wp2_with fail
      go_ret
      exact ⟨by rw [HC.out]; rfl, HB2.out⟩

end Go.Proofs.YtkjjiinccljhjaaGreatDoor

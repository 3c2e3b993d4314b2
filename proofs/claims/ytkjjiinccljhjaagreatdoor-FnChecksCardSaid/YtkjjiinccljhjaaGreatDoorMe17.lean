/- Helper contracts: IsResponse of the program and of the model answer alike. Asked: the policy's text is no longer than 2^20 bytes; for the program: the library's MaxLen holds a number. The program's FormatInt returns the decimal numeral of every int, and so the law FnExactFormatInt returns true; asked: the library's table of powers of ten lies in memory as its initialiser lays it. Helper contracts: CheckDigest of the program and of the model answer alike. Asked: the body is no longer than 2^20; for the program: the library's table of powers of ten lies as its initialiser lays it. -/
import Derived.Test.YtkjjiinccljhjaaGreatDoorMe11
import Derived.Test.YtkjjiinccljhjaaGreatDoorMe15
import Derived.Test.YtkjjiinccljhjaaGreatDoorMe16
import Derived.Test.YtkjjiinccljhjaaGreatDoorShelf
import Derived.Lib.AppendIntMem
import Derived.Test.YtkjjiinccljhjaaGreatDoorMe2
namespace Go.Proofs.YtkjjiinccljhjaaGreatDoor

open Go.ChangeShapes Go.WideShapes Go.ChangeAt Go.RowKit

def isRs (st kd : Int) (bo : ByteArray) (ag : Int) (po : ByteArray) : Bool := inB st 100 599 && inB kd 1 5 && decide (bo.size ≤ 400) && inB ag 0 1000 && (prsP po).2

set_option maxRecDepth 100000 in
set_option maxHeartbeats 2000000 in
theorem isRs_spec (st kd : Int) (bo : ByteArray) (ag : Int) (sh : Bool) (po : ByteArray) (hz : po.size ≤ 1048576) (w : World) :
    Calls Tryz.prog 40 #[.agg #[.int .i64 st, .int .i64 kd, .string bo, .int .i64 ag, .bool sh, .string po]] w fun e w' => e = .returned (.bool (isRs st kd bo ag po)) ∧ Below w.heap.size w w' := by
  obtain ⟨W, hW⟩ : ∃ W, w.alloc (.cells #[.int .i64 st, .int .i64 kd, .string bo, .int .i64 ag, .bool sh, .string po] 32) = W := ⟨_, rfl⟩
  have HB := Lib.hid (show Below w.heap.size w W by rw [← hW]; exact bl_aw (Below.refl _ _) _)
  have q0 : W.cell? ⟨w.heap.size, 0, none⟩ = some (.int .i64 st) := by rw [← hW]; simp
  have q1 : W.cell? ⟨w.heap.size, 1, none⟩ = some (.int .i64 kd) := by rw [← hW]; simp
  have q2 : W.cell? ⟨w.heap.size, 2, none⟩ = some (.string bo) := by rw [← hW]; simp
  have q3 : W.cell? ⟨w.heap.size, 3, none⟩ = some (.int .i64 ag) := by rw [← hW]; simp
  have q4 : W.cell? ⟨w.heap.size, 4, none⟩ = some (.bool sh) := by rw [← hW]; simp
  have q5 : W.cell? ⟨w.heap.size, 5, none⟩ = some (.string po) := by rw [← hW]; simp
  have HW := Lib.hid hW; clear hW
  obtain ⟨⟨q, ok⟩, hq⟩ : ∃ r, prsP po = r := ⟨_, rfl⟩
  have HP := Lib.hid (hq ▸ prs_spec po hz W)
  have HV := Lib.hid (show isRs st kd bo ag po = (inB st 100 599 && inB kd 1 5 && decide (bo.size ≤ 400) && inB ag 0 1000 && ok) by unfold isRs; rw [hq])
  clear hq hz
  have HI1 := Lib.hid (fun X => lin_any st 100 599 X); have HI2 := Lib.hid (fun X => lin_any kd 1 5 X); have HI3 := Lib.hid (fun X => lin_any ag 0 1000 X)
  cases e1 : inB st 100 599 with
  | false =>
    rw [e1] at HI1 HV; clear e1
    go_enter Tryz.func40, Tryz.ntmps40
    go_wp2_with fail
    rw [HW.out]
    refine HP.out.mono ?_
    rintro e w1 ⟨a1, n1, c1, a2, n2, c2, a3, n3, c3, rfl, -, hb⟩
    replace q0 := (hb.cell (show (⟨w.heap.size, 0, none⟩ : Addr).block < _ from World.block_lt_of_cell? _ _ q0)).trans q0
    replace q1 := (hb.cell (show (⟨w.heap.size, 1, none⟩ : Addr).block < _ from World.block_lt_of_cell? _ _ q1)).trans q1
    replace q2 := (hb.cell (show (⟨w.heap.size, 2, none⟩ : Addr).block < _ from World.block_lt_of_cell? _ _ q2)).trans q2
    replace q3 := (hb.cell (show (⟨w.heap.size, 3, none⟩ : Addr).block < _ from World.block_lt_of_cell? _ _ q3)).trans q3
    replace q4 := (hb.cell (show (⟨w.heap.size, 4, none⟩ : Addr).block < _ from World.block_lt_of_cell? _ _ q4)).trans q4
    replace q5 := (hb.cell (show (⟨w.heap.size, 5, none⟩ : Addr).block < _ from World.block_lt_of_cell? _ _ q5)).trans q5
    replace HB := Lib.hid (HB.out.trans (hb.mono HB.out.size)); clear hb
    go_upto_region 2 with (fail)
    obtain ⟨w2, hw2⟩ : ∃ x, w1.alloc (.cells #[.bool q.set, .slice a1 n1 c1, .slice a2 n2 c2, .slice a3 n3 c3, .string q.non] 26) = x := ⟨_, rfl⟩
    rw [hw2]
    have hb2 : Below w1.heap.size w1 w2 := by rw [← hw2]; exact bl_aw (Below.refl _ _) _
    replace q0 := (hb2.cell (show (⟨w.heap.size, 0, none⟩ : Addr).block < _ from World.block_lt_of_cell? _ _ q0)).trans q0
    replace q1 := (hb2.cell (show (⟨w.heap.size, 1, none⟩ : Addr).block < _ from World.block_lt_of_cell? _ _ q1)).trans q1
    replace q2 := (hb2.cell (show (⟨w.heap.size, 2, none⟩ : Addr).block < _ from World.block_lt_of_cell? _ _ q2)).trans q2
    replace q3 := (hb2.cell (show (⟨w.heap.size, 3, none⟩ : Addr).block < _ from World.block_lt_of_cell? _ _ q3)).trans q3
    replace q4 := (hb2.cell (show (⟨w.heap.size, 4, none⟩ : Addr).block < _ from World.block_lt_of_cell? _ _ q4)).trans q4
    replace q5 := (hb2.cell (show (⟨w.heap.size, 5, none⟩ : Addr).block < _ from World.block_lt_of_cell? _ _ q5)).trans q5
    replace HB := Lib.hid (HB.out.trans (hb2.mono HB.out.size)); clear hb2 hw2
    go_wp2_with fail
    refine (HI1.out _).mono ?_
    rintro e wz ⟨rfl, rfl⟩
    go_wp2_with fail
    go_ret
    exact ⟨by rw [HV.out]; rfl, HB.out⟩
  | true =>
    rw [e1] at HI1 HV; clear e1
    cases e2 : inB kd 1 5 with
    | false =>
      rw [e2] at HI2 HV; clear e2
      go_enter Tryz.func40, Tryz.ntmps40
      go_wp2_with fail
      rw [HW.out]
      refine HP.out.mono ?_
      rintro e w1 ⟨a1, n1, c1, a2, n2, c2, a3, n3, c3, rfl, -, hb⟩
      replace q0 := (hb.cell (show (⟨w.heap.size, 0, none⟩ : Addr).block < _ from World.block_lt_of_cell? _ _ q0)).trans q0
      replace q1 := (hb.cell (show (⟨w.heap.size, 1, none⟩ : Addr).block < _ from World.block_lt_of_cell? _ _ q1)).trans q1
      replace q2 := (hb.cell (show (⟨w.heap.size, 2, none⟩ : Addr).block < _ from World.block_lt_of_cell? _ _ q2)).trans q2
      replace q3 := (hb.cell (show (⟨w.heap.size, 3, none⟩ : Addr).block < _ from World.block_lt_of_cell? _ _ q3)).trans q3
      replace q4 := (hb.cell (show (⟨w.heap.size, 4, none⟩ : Addr).block < _ from World.block_lt_of_cell? _ _ q4)).trans q4
      replace q5 := (hb.cell (show (⟨w.heap.size, 5, none⟩ : Addr).block < _ from World.block_lt_of_cell? _ _ q5)).trans q5
      replace HB := Lib.hid (HB.out.trans (hb.mono HB.out.size)); clear hb
      go_upto_region 2 with (fail)
      obtain ⟨w2, hw2⟩ : ∃ x, w1.alloc (.cells #[.bool q.set, .slice a1 n1 c1, .slice a2 n2 c2, .slice a3 n3 c3, .string q.non] 26) = x := ⟨_, rfl⟩
      rw [hw2]
      have hb2 : Below w1.heap.size w1 w2 := by rw [← hw2]; exact bl_aw (Below.refl _ _) _
      replace q0 := (hb2.cell (show (⟨w.heap.size, 0, none⟩ : Addr).block < _ from World.block_lt_of_cell? _ _ q0)).trans q0
      replace q1 := (hb2.cell (show (⟨w.heap.size, 1, none⟩ : Addr).block < _ from World.block_lt_of_cell? _ _ q1)).trans q1
      replace q2 := (hb2.cell (show (⟨w.heap.size, 2, none⟩ : Addr).block < _ from World.block_lt_of_cell? _ _ q2)).trans q2
      replace q3 := (hb2.cell (show (⟨w.heap.size, 3, none⟩ : Addr).block < _ from World.block_lt_of_cell? _ _ q3)).trans q3
      replace q4 := (hb2.cell (show (⟨w.heap.size, 4, none⟩ : Addr).block < _ from World.block_lt_of_cell? _ _ q4)).trans q4
      replace q5 := (hb2.cell (show (⟨w.heap.size, 5, none⟩ : Addr).block < _ from World.block_lt_of_cell? _ _ q5)).trans q5
      replace HB := Lib.hid (HB.out.trans (hb2.mono HB.out.size)); clear hb2 hw2
      go_wp2_with fail
      refine (HI1.out _).mono ?_
      rintro e wz ⟨rfl, rfl⟩
      go_wp2_with fail
      refine (HI2.out _).mono ?_
      rintro e wz ⟨rfl, rfl⟩
      go_wp2_with fail
      go_ret
      exact ⟨by rw [HV.out]; rfl, HB.out⟩
    | true =>
      rw [e2] at HI2 HV; clear e2
      by_cases h4 : bo.size ≤ 400
      · have d1 : decide ((400 : Int) < (bo.size : Int)) = false := decide_eq_false (by omega); have d2 : decide ((bo.size : Int) ≤ 400) = true := decide_eq_true (by omega); have d3 : ¬ (400 : Int) < (bo.size : Int) := (by omega); have d4 : (bo.size : Int) ≤ 400 := (by omega)
        rw [decide_eq_true h4] at HV; clear h4
        cases e3 : inB ag 0 1000 with
        | false =>
          rw [e3] at HI3 HV; clear e3
          go_enter Tryz.func40, Tryz.ntmps40
          go_wp2_with fail
          rw [HW.out]
          refine HP.out.mono ?_
          rintro e w1 ⟨a1, n1, c1, a2, n2, c2, a3, n3, c3, rfl, -, hb⟩
          replace q0 := (hb.cell (show (⟨w.heap.size, 0, none⟩ : Addr).block < _ from World.block_lt_of_cell? _ _ q0)).trans q0
          replace q1 := (hb.cell (show (⟨w.heap.size, 1, none⟩ : Addr).block < _ from World.block_lt_of_cell? _ _ q1)).trans q1
          replace q2 := (hb.cell (show (⟨w.heap.size, 2, none⟩ : Addr).block < _ from World.block_lt_of_cell? _ _ q2)).trans q2
          replace q3 := (hb.cell (show (⟨w.heap.size, 3, none⟩ : Addr).block < _ from World.block_lt_of_cell? _ _ q3)).trans q3
          replace q4 := (hb.cell (show (⟨w.heap.size, 4, none⟩ : Addr).block < _ from World.block_lt_of_cell? _ _ q4)).trans q4
          replace q5 := (hb.cell (show (⟨w.heap.size, 5, none⟩ : Addr).block < _ from World.block_lt_of_cell? _ _ q5)).trans q5
          replace HB := Lib.hid (HB.out.trans (hb.mono HB.out.size)); clear hb
          go_upto_region 2 with (fail)
          obtain ⟨w2, hw2⟩ : ∃ x, w1.alloc (.cells #[.bool q.set, .slice a1 n1 c1, .slice a2 n2 c2, .slice a3 n3 c3, .string q.non] 26) = x := ⟨_, rfl⟩
          rw [hw2]
          have hb2 : Below w1.heap.size w1 w2 := by rw [← hw2]; exact bl_aw (Below.refl _ _) _
          replace q0 := (hb2.cell (show (⟨w.heap.size, 0, none⟩ : Addr).block < _ from World.block_lt_of_cell? _ _ q0)).trans q0
          replace q1 := (hb2.cell (show (⟨w.heap.size, 1, none⟩ : Addr).block < _ from World.block_lt_of_cell? _ _ q1)).trans q1
          replace q2 := (hb2.cell (show (⟨w.heap.size, 2, none⟩ : Addr).block < _ from World.block_lt_of_cell? _ _ q2)).trans q2
          replace q3 := (hb2.cell (show (⟨w.heap.size, 3, none⟩ : Addr).block < _ from World.block_lt_of_cell? _ _ q3)).trans q3
          replace q4 := (hb2.cell (show (⟨w.heap.size, 4, none⟩ : Addr).block < _ from World.block_lt_of_cell? _ _ q4)).trans q4
          replace q5 := (hb2.cell (show (⟨w.heap.size, 5, none⟩ : Addr).block < _ from World.block_lt_of_cell? _ _ q5)).trans q5
          replace HB := Lib.hid (HB.out.trans (hb2.mono HB.out.size)); clear hb2 hw2
          go_wp2_with fail
          refine (HI1.out _).mono ?_
          rintro e wz ⟨rfl, rfl⟩
          go_wp2_with fail
          refine (HI2.out _).mono ?_
          rintro e wz ⟨rfl, rfl⟩
          go_wp2_with fail
          refine (HI3.out _).mono ?_
          rintro e wz ⟨rfl, rfl⟩
          go_wp2_with fail
          go_ret
          exact ⟨by rw [HV.out]; rfl, HB.out⟩
        | true =>
          rw [e3] at HI3 HV; clear e3
          go_enter Tryz.func40, Tryz.ntmps40
          go_wp2_with fail
          rw [HW.out]
          refine HP.out.mono ?_
          rintro e w1 ⟨a1, n1, c1, a2, n2, c2, a3, n3, c3, rfl, -, hb⟩
          replace q0 := (hb.cell (show (⟨w.heap.size, 0, none⟩ : Addr).block < _ from World.block_lt_of_cell? _ _ q0)).trans q0
          replace q1 := (hb.cell (show (⟨w.heap.size, 1, none⟩ : Addr).block < _ from World.block_lt_of_cell? _ _ q1)).trans q1
          replace q2 := (hb.cell (show (⟨w.heap.size, 2, none⟩ : Addr).block < _ from World.block_lt_of_cell? _ _ q2)).trans q2
          replace q3 := (hb.cell (show (⟨w.heap.size, 3, none⟩ : Addr).block < _ from World.block_lt_of_cell? _ _ q3)).trans q3
          replace q4 := (hb.cell (show (⟨w.heap.size, 4, none⟩ : Addr).block < _ from World.block_lt_of_cell? _ _ q4)).trans q4
          replace q5 := (hb.cell (show (⟨w.heap.size, 5, none⟩ : Addr).block < _ from World.block_lt_of_cell? _ _ q5)).trans q5
          replace HB := Lib.hid (HB.out.trans (hb.mono HB.out.size)); clear hb
          go_upto_region 2 with (fail)
          obtain ⟨w2, hw2⟩ : ∃ x, w1.alloc (.cells #[.bool q.set, .slice a1 n1 c1, .slice a2 n2 c2, .slice a3 n3 c3, .string q.non] 26) = x := ⟨_, rfl⟩
          rw [hw2]
          have hb2 : Below w1.heap.size w1 w2 := by rw [← hw2]; exact bl_aw (Below.refl _ _) _
          replace q0 := (hb2.cell (show (⟨w.heap.size, 0, none⟩ : Addr).block < _ from World.block_lt_of_cell? _ _ q0)).trans q0
          replace q1 := (hb2.cell (show (⟨w.heap.size, 1, none⟩ : Addr).block < _ from World.block_lt_of_cell? _ _ q1)).trans q1
          replace q2 := (hb2.cell (show (⟨w.heap.size, 2, none⟩ : Addr).block < _ from World.block_lt_of_cell? _ _ q2)).trans q2
          replace q3 := (hb2.cell (show (⟨w.heap.size, 3, none⟩ : Addr).block < _ from World.block_lt_of_cell? _ _ q3)).trans q3
          replace q4 := (hb2.cell (show (⟨w.heap.size, 4, none⟩ : Addr).block < _ from World.block_lt_of_cell? _ _ q4)).trans q4
          replace q5 := (hb2.cell (show (⟨w.heap.size, 5, none⟩ : Addr).block < _ from World.block_lt_of_cell? _ _ q5)).trans q5
          replace HB := Lib.hid (HB.out.trans (hb2.mono HB.out.size)); clear hb2 hw2
          go_wp2_with fail
          refine (HI1.out _).mono ?_
          rintro e wz ⟨rfl, rfl⟩
          go_wp2_with fail
          refine (HI2.out _).mono ?_
          rintro e wz ⟨rfl, rfl⟩
          go_wp2_with fail
          refine (HI3.out _).mono ?_
          rintro e wz ⟨rfl, rfl⟩
          go_wp2_with fail
          go_ret
          exact ⟨by rw [HV.out]; rfl, HB.out⟩
      · have d1 : decide ((400 : Int) < (bo.size : Int)) = true := decide_eq_true (by omega); have d2 : decide ((bo.size : Int) ≤ 400) = false := decide_eq_false (by omega); have d3 : (400 : Int) < (bo.size : Int) := (by omega); have d4 : ¬ (bo.size : Int) ≤ 400 := (by omega)
        rw [decide_eq_false h4] at HV; clear h4
        go_enter Tryz.func40, Tryz.ntmps40
        go_wp2_with fail
        rw [HW.out]
        refine HP.out.mono ?_
        rintro e w1 ⟨a1, n1, c1, a2, n2, c2, a3, n3, c3, rfl, -, hb⟩
        replace q0 := (hb.cell (show (⟨w.heap.size, 0, none⟩ : Addr).block < _ from World.block_lt_of_cell? _ _ q0)).trans q0
        replace q1 := (hb.cell (show (⟨w.heap.size, 1, none⟩ : Addr).block < _ from World.block_lt_of_cell? _ _ q1)).trans q1
        replace q2 := (hb.cell (show (⟨w.heap.size, 2, none⟩ : Addr).block < _ from World.block_lt_of_cell? _ _ q2)).trans q2
        replace q3 := (hb.cell (show (⟨w.heap.size, 3, none⟩ : Addr).block < _ from World.block_lt_of_cell? _ _ q3)).trans q3
        replace q4 := (hb.cell (show (⟨w.heap.size, 4, none⟩ : Addr).block < _ from World.block_lt_of_cell? _ _ q4)).trans q4
        replace q5 := (hb.cell (show (⟨w.heap.size, 5, none⟩ : Addr).block < _ from World.block_lt_of_cell? _ _ q5)).trans q5
        replace HB := Lib.hid (HB.out.trans (hb.mono HB.out.size)); clear hb
        go_upto_region 2 with (fail)
        obtain ⟨w2, hw2⟩ : ∃ x, w1.alloc (.cells #[.bool q.set, .slice a1 n1 c1, .slice a2 n2 c2, .slice a3 n3 c3, .string q.non] 26) = x := ⟨_, rfl⟩
        rw [hw2]
        have hb2 : Below w1.heap.size w1 w2 := by rw [← hw2]; exact bl_aw (Below.refl _ _) _
        replace q0 := (hb2.cell (show (⟨w.heap.size, 0, none⟩ : Addr).block < _ from World.block_lt_of_cell? _ _ q0)).trans q0
        replace q1 := (hb2.cell (show (⟨w.heap.size, 1, none⟩ : Addr).block < _ from World.block_lt_of_cell? _ _ q1)).trans q1
        replace q2 := (hb2.cell (show (⟨w.heap.size, 2, none⟩ : Addr).block < _ from World.block_lt_of_cell? _ _ q2)).trans q2
        replace q3 := (hb2.cell (show (⟨w.heap.size, 3, none⟩ : Addr).block < _ from World.block_lt_of_cell? _ _ q3)).trans q3
        replace q4 := (hb2.cell (show (⟨w.heap.size, 4, none⟩ : Addr).block < _ from World.block_lt_of_cell? _ _ q4)).trans q4
        replace q5 := (hb2.cell (show (⟨w.heap.size, 5, none⟩ : Addr).block < _ from World.block_lt_of_cell? _ _ q5)).trans q5
        replace HB := Lib.hid (HB.out.trans (hb2.mono HB.out.size)); clear hb2 hw2
        go_wp2_with fail
        refine (HI1.out _).mono ?_
        rintro e wz ⟨rfl, rfl⟩
        go_wp2_with fail
        refine (HI2.out _).mono ?_
        rintro e wz ⟨rfl, rfl⟩
        go_wp2_with fail
        go_ret
        exact ⟨by rw [HV.out]; rfl, HB.out⟩

set_option maxRecDepth 100000 in
set_option maxHeartbeats 2000000 in
theorem isRs_impl (st kd : Int) (bo : ByteArray) (ag : Int) (sh : Bool) (po : ByteArray) (hz : po.size ≤ 1048576) (w : World) (hm : Max0 w) :
    Calls Tryz.prog 39 #[.agg #[.int .i64 st, .int .i64 kd, .string bo, .int .i64 ag, .bool sh, .string po]] w fun e w' => e = .returned (.bool (isRs st kd bo ag po)) ∧ Below w.heap.size w w' := by
  obtain ⟨W, hW⟩ : ∃ W, w.alloc (.cells #[.int .i64 st, .int .i64 kd, .string bo, .int .i64 ag, .bool sh, .string po] 32) = W := ⟨_, rfl⟩
  have HB := Lib.hid (show Below w.heap.size w W by rw [← hW]; exact bl_aw (Below.refl _ _) _)
  have q0 : W.cell? ⟨w.heap.size, 0, none⟩ = some (.int .i64 st) := by rw [← hW]; simp
  have q1 : W.cell? ⟨w.heap.size, 1, none⟩ = some (.int .i64 kd) := by rw [← hW]; simp
  have q2 : W.cell? ⟨w.heap.size, 2, none⟩ = some (.string bo) := by rw [← hW]; simp
  have q3 : W.cell? ⟨w.heap.size, 3, none⟩ = some (.int .i64 ag) := by rw [← hW]; simp
  have q4 : W.cell? ⟨w.heap.size, 4, none⟩ = some (.bool sh) := by rw [← hW]; simp
  have q5 : W.cell? ⟨w.heap.size, 5, none⟩ = some (.string po) := by rw [← hW]; simp
  have HW := Lib.hid hW; clear hW
  obtain ⟨⟨q, ok⟩, hq⟩ : ∃ r, prsP po = r := ⟨_, rfl⟩
  have HP := Lib.hid (hq ▸ prs_impl po hz W (hm.on HB.out))
  have HV := Lib.hid (show isRs st kd bo ag po = (inB st 100 599 && inB kd 1 5 && decide (bo.size ≤ 400) && inB ag 0 1000 && ok) by unfold isRs; rw [hq])
  clear hq hz hm
  have HI1 := Lib.hid (fun X => rin_any st 100 599 X); have HI2 := Lib.hid (fun X => rin_any kd 1 5 X); have HI3 := Lib.hid (fun X => rin_any ag 0 1000 X)
  cases e1 : inB st 100 599 with
  | false =>
    rw [e1] at HI1 HV; clear e1
    go_enter Tryz.func39, Tryz.ntmps39
    go_wp2_with fail
    rw [HW.out]
    refine (HI1.out _).mono ?_
    rintro e wz ⟨rfl, rfl⟩
    go_wp2_with fail
    go_ret
    exact ⟨by rw [HV.out]; rfl, HB.out⟩
  | true =>
    rw [e1] at HI1 HV; clear e1
    cases e2 : inB kd 1 5 with
    | false =>
      rw [e2] at HI2 HV; clear e2
      go_enter Tryz.func39, Tryz.ntmps39
      go_wp2_with fail
      rw [HW.out]
      refine (HI1.out _).mono ?_
      rintro e wz ⟨rfl, rfl⟩
      go_wp2_with fail
      refine (HI2.out _).mono ?_
      rintro e wz ⟨rfl, rfl⟩
      go_wp2_with fail
      go_ret
      exact ⟨by rw [HV.out]; rfl, HB.out⟩
    | true =>
      rw [e2] at HI2 HV; clear e2
      by_cases h4 : bo.size ≤ 400
      · have d1 : decide ((400 : Int) < (bo.size : Int)) = false := decide_eq_false (by omega); have d2 : decide ((bo.size : Int) ≤ 400) = true := decide_eq_true (by omega); have d3 : ¬ (400 : Int) < (bo.size : Int) := (by omega); have d4 : (bo.size : Int) ≤ 400 := (by omega)
        rw [decide_eq_true h4] at HV; clear h4
        cases e3 : inB ag 0 1000 with
        | false =>
          rw [e3] at HI3 HV; clear e3
          go_enter Tryz.func39, Tryz.ntmps39
          go_wp2_with fail
          rw [HW.out]
          refine (HI1.out _).mono ?_
          rintro e wz ⟨rfl, rfl⟩
          go_wp2_with fail
          refine (HI2.out _).mono ?_
          rintro e wz ⟨rfl, rfl⟩
          go_wp2_with fail
          refine (HI3.out _).mono ?_
          rintro e wz ⟨rfl, rfl⟩
          go_wp2_with fail
          go_ret
          exact ⟨by rw [HV.out]; rfl, HB.out⟩
        | true =>
          rw [e3] at HI3 HV; clear e3
          go_enter Tryz.func39, Tryz.ntmps39
          go_wp2_with fail
          rw [HW.out]
          refine (HI1.out _).mono ?_
          rintro e wz ⟨rfl, rfl⟩
          go_wp2_with fail
          refine (HI2.out _).mono ?_
          rintro e wz ⟨rfl, rfl⟩
          go_wp2_with fail
          refine (HI3.out _).mono ?_
          rintro e wz ⟨rfl, rfl⟩
          go_wp2_with fail
          refine HP.out.mono ?_
          rintro e w1 ⟨a1, n1, c1, a2, n2, c2, a3, n3, c3, rfl, -, hb⟩
          replace HB := Lib.hid (HB.out.trans (hb.mono HB.out.size)); clear hb
          go_wp2_with fail
          go_ret
          exact ⟨by rw [HV.out]; rfl, HB.out.alloc HB.out.size _⟩
      · have d1 : decide ((400 : Int) < (bo.size : Int)) = true := decide_eq_true (by omega); have d2 : decide ((bo.size : Int) ≤ 400) = false := decide_eq_false (by omega); have d3 : (400 : Int) < (bo.size : Int) := (by omega); have d4 : ¬ (bo.size : Int) ≤ 400 := (by omega)
        rw [decide_eq_false h4] at HV; clear h4
        go_enter Tryz.func39, Tryz.ntmps39
        go_wp2_with fail
        rw [HW.out]
        refine (HI1.out _).mono ?_
        rintro e wz ⟨rfl, rfl⟩
        go_wp2_with fail
        refine (HI2.out _).mono ?_
        rintro e wz ⟨rfl, rfl⟩
        go_wp2_with fail
        go_ret
        exact ⟨by rw [HV.out]; rfl, HB.out⟩

end Go.Proofs.YtkjjiinccljhjaaGreatDoor
namespace Go.Proofs.YtkjjiinccljhjaaGreatDoor
open Go.ChangeShapes Go.WideShapes Go.ChangeAt Go.RowKit

theorem fmt_impl (n : Int) (h0 : -9223372036854775808 ≤ n) (h1 : n ≤ 9223372036854775807) (w : World) (htab : Lib.TabIs Tryz.prog w "internal/strconv.uint64pow10" .u64 Lib.pow10Tab) :
    Calls Tryz.prog 96 #[.int .i64 n] w fun e w' => e = .returned (.string (fmtS n)) ∧ Below w.heap.size w w' := by
  go_enter Tryz.func96, Tryz.ntmps96
  go_wp2_with (go_at_call 150; refine (Tryz.strconv_Itoa n h0 h1 _ htab).mono ?_; rintro e w' ⟨rfl, k, os, rfl⟩)
  go_ret
  exact ⟨rfl, Lib.below_grow _ _ (Nat.le_refl _) k os⟩

end Go.Proofs.YtkjjiinccljhjaaGreatDoor
namespace Go.Proofs.YtkjjiinccljhjaaGreatDoor
open Go.ChangeShapes Go.WideShapes Go.ChangeAt Go.RowKit

def chB (s v : ByteArray) : Bool := decide (v.size = 0) || decide (v = fmtS (digN s))
theorem empD_size (s : ByteArray) : (s.toList == []) = decide (s.size = 0) := by
  rw [ByteArray.toList_eq]
  by_cases h : s.size = 0
  · rw [decide_eq_true h, beq_iff_eq]; exact List.eq_nil_of_length_eq_zero (by rw [size_list]; exact h)
  · rw [decide_eq_false h]
    refine beq_eq_false_iff_ne.2 fun e => h ?_
    rw [← size_list, e]; rfl

set_option maxRecDepth 100000 in
set_option maxHeartbeats 2000000 in
theorem chk_spec (s v : ByteArray) (w : World) (hl : s.size ≤ 1048576) :
    Calls Tryz.prog 79 #[.string s, .string v] w fun e w' => e = .returned (.bool (chB s v)) ∧ Below w.heap.size w w' := by
  by_cases h0 : v.size = 0
  · have e1 : (v.toList == []) = true := by rw [empD_size, decide_eq_true h0]
    have HV := Lib.hid (show chB s v = true by unfold chB; rw [decide_eq_true h0]; rfl); clear h0
    go_enter Tryz.func79, Tryz.ntmps79
    go_wp2_with fail
    go_ret
    exact ⟨by rw [HV.out]; rfl, Below.refl _ _⟩
  · have e1 : (v.toList == []) = false := by rw [empD_size, decide_eq_false h0]
    have HD := Lib.hid (dig_spec s w hl)
    have hbd := digN_bd s
    have HC := Lib.hid (show chB s v = decide (v = fmtS (digN s)) by unfold chB; rw [decide_eq_false h0, Bool.false_or]); clear h0
    obtain ⟨D, hD⟩ : ∃ D, digN s = D := ⟨_, rfl⟩
    rw [hD] at HD HC hbd; clear hD
    have hd0 : -9223372036854775808 ≤ D := by omega
    have hd1 : D ≤ 9223372036854775807 := by omega
    by_cases h1 : v = fmtS D
    · have e2 : (v.toList == (fmtS D).toList) = true := beqL_yes h1
      rw [decide_eq_true h1] at HC; clear h1
      go_enter Tryz.func79, Tryz.ntmps79
      go_wp2_with fail
      refine HD.out.mono ?_
      rintro e w1 ⟨rfl, hb1⟩
      have HB1 := Lib.hid hb1; clear hb1
      go_wp2_with fail
      refine (fmt_spec D hd0 hd1 _).mono ?_
      rintro e w2 ⟨rfl, hb2⟩
      have HB2 := Lib.hid (HB1.out.trans (hb2.mono HB1.out.size)); clear hb2
      go_wp2_with fail
      go_ret
      exact ⟨by rw [HC.out]; rfl, HB2.out⟩
    · have e2 : (v.toList == (fmtS D).toList) = false := beqL_no h1
      rw [decide_eq_false h1] at HC; clear h1
      go_enter Tryz.func79, Tryz.ntmps79
      go_wp2_with fail
      refine HD.out.mono ?_
      rintro e w1 ⟨rfl, hb1⟩
      have HB1 := Lib.hid hb1; clear hb1
      go_wp2_with fail
      refine (fmt_spec D hd0 hd1 _).mono ?_
      rintro e w2 ⟨rfl, hb2⟩
      have HB2 := Lib.hid (HB1.out.trans (hb2.mono HB1.out.size)); clear hb2
      go_wp2_with fail
      go_ret
      exact ⟨by rw [HC.out]; rfl, HB2.out⟩

set_option maxRecDepth 100000 in
set_option maxHeartbeats 2000000 in
theorem chk_impl (s v : ByteArray) (w : World) (hl : s.size ≤ 1048576) (htab : Lib.TabIs Tryz.prog w "internal/strconv.uint64pow10" .u64 Lib.pow10Tab) :
    Calls Tryz.prog 38 #[.string s, .string v] w fun e w' => e = .returned (.bool (chB s v)) ∧ Below w.heap.size w w' := by
  have HT := Lib.hid (Lib.tabBelow_of_tabIs htab); clear htab
  by_cases h0 : v.size = 0
  · have e1 : (v.toList == []) = true := by rw [empD_size, decide_eq_true h0]
    have HV := Lib.hid (show chB s v = true by unfold chB; rw [decide_eq_true h0]; rfl); clear h0
    go_enter Tryz.func38, Tryz.ntmps38
    go_wp2_with fail
    go_ret
    exact ⟨by rw [HV.out]; rfl, Below.refl _ _⟩
  · have e1 : (v.toList == []) = false := by rw [empD_size, decide_eq_false h0]
    have HD := Lib.hid (dig_impl s w hl)
    have hbd := digN_bd s
    have HC := Lib.hid (show chB s v = decide (v = fmtS (digN s)) by unfold chB; rw [decide_eq_false h0, Bool.false_or]); clear h0
    obtain ⟨D, hD⟩ : ∃ D, digN s = D := ⟨_, rfl⟩
    rw [hD] at HD HC hbd; clear hD
    have hd0 : -9223372036854775808 ≤ D := by omega
    have hd1 : D ≤ 9223372036854775807 := by omega
    by_cases h1 : v = fmtS D
    · have e2 : (v.toList == (fmtS D).toList) = true := beqL_yes h1
      rw [decide_eq_true h1] at HC; clear h1
      go_enter Tryz.func38, Tryz.ntmps38
      go_wp2_with fail
      refine HD.out.mono ?_
      rintro e w1 ⟨rfl, hb1⟩
      have HB1 := Lib.hid hb1; clear hb1
      go_wp2_with fail
      refine (fmt_impl D hd0 hd1 _ (HT.out _ HB1.out)).mono ?_
      rintro e w2 ⟨rfl, hb2⟩
      have HB2 := Lib.hid (HB1.out.trans (hb2.mono HB1.out.size)); clear hb2
      go_wp2_with fail
      go_ret
      exact ⟨by rw [HC.out]; rfl, HB2.out⟩
    · have e2 : (v.toList == (fmtS D).toList) = false := beqL_no h1
      rw [decide_eq_false h1] at HC; clear h1
      go_enter Tryz.func38, Tryz.ntmps38
      go_wp2_with fail
      refine HD.out.mono ?_
      rintro e w1 ⟨rfl, hb1⟩
      have HB1 := Lib.hid hb1; clear hb1
      go_wp2_with fail
      refine (fmt_impl D hd0 hd1 _ (HT.out _ HB1.out)).mono ?_
      rintro e w2 ⟨rfl, hb2⟩
      have HB2 := Lib.hid (HB1.out.trans (hb2.mono HB1.out.size)); clear hb2
      go_wp2_with fail
      go_ret
      exact ⟨by rw [HC.out]; rfl, HB2.out⟩

end Go.Proofs.YtkjjiinccljhjaaGreatDoor

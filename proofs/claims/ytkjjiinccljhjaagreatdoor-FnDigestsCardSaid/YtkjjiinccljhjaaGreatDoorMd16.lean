/- Helper contracts: IsResponse of the program and of the model answer alike. Asked: the policy's text is no longer than 2^20 bytes; for the program: the library's MaxLen holds a number. Plain facts on decimal numerals (no program in this text): which lists of bytes are the numeral of a number up to 1000000000000, and what strconv.Atoi's own function gives at them. Two numbers that follow one another have different numerals. Helper facts, no claim of its own. A drawn region whose callees make memory and write nothing old, as one walk. Helper facts, no claim of its own. The walk of the law FnDigests: it returns true, and writes nothing that was there. FnDigests: the walk for every argument. What a row's condition on the listed variables of Go's library gives: the table of powers of ten reads as listed. Helper facts, no claim of its own. What a row's condition on the five listed variables of Go's library gives: the table of powers of ten reads as listed. Helper facts, no claim of its own. A row with listed variables whose call also leans on the shape of the world it begins in: both facts handed to the walk. Helper fact, no claim of its own. -/
import Derived.Test.YtkjjiinccljhjaaGreatDoorMd11
import Derived.Test.YtkjjiinccljhjaaGreatDoorMd14
import Derived.Test.YtkjjiinccljhjaaGreatDoorMd15
import Derived.Lib.ItoaNum
import Derived.Lib.AtoiTie
import Derived.Lib.ItoaLen
import Derived.Test.YtkjjiinccljhjaaGreatDoorMd1
import Derived.BigQuiet
import Derived.Deep.QuietTactic
import Derived.Test.YtkjjiinccljhjaaGreatDoorMd12
import Derived.Test.YtkjjiinccljhjaaGreatDoorMd13
import Derived.Test.YtkjjiinccljhjaaGreatDoorMd9
import Derived.Test.YtkjjiinccljhjaaGreatDoorMd4
import Derived.Test.YtkjjiinccljhjaaGreatDoorRows
import Derived.ProofKit
import Derived.LaidMore
import Derived.OpenShut
import Derived.Stop.Joined
import Derived.Stop.LaidErr
import Derived.Lib.LaidTab
import Derived.LaidLaws
import Derived.Handed
namespace Go.Proofs.YtkjjiinccljhjaaGreatDoor

open Go.ChangeShapes Go.WideShapes Go.ChangeAt Go.RowKit

def isRs (st kd : Int) (bo : ByteArray) (ag : Int) (po : ByteArray) : Bool := inB st 100 599 && inB kd 1 5 && decide (bo.size ≤ 400) && inB ag 0 1000 && (prsP po).2

set_option maxRecDepth 100000 in
set_option maxHeartbeats 2000000 in
theorem isRs_spec (st kd : Int) (bo : ByteArray) (ag : Int) (sh : Bool) (po : ByteArray) (hz : po.size ≤ 1048576) (w : World) :
    Calls Tryz.prog 40 #[.agg #[.int .i64 st, .int .i64 kd, .string bo, .int .i64 ag, .bool sh, .string po]] w fun e w' => e = .returned (.bool (isRs st kd bo ag po)) ∧ Below w.heap.size w w' := by
  obtain ⟨W, hW⟩ : ∃ W, w.alloc (.cells #[.int .i64 st, .int .i64 kd, .string bo, .int .i64 ag, .bool sh, .string po] 32) = W := ⟨_, rfl⟩
  have HB := Lib.hid (show Below w.heap.size w W by rw [← hW]; exact bl_aw (Below.refl _ _) _)
  have q0 : W.cell? ⟨w.heap.size, 0, none⟩ = some (.int .i64 st) := by rw [← hW]; simp
  have q1 : W.cell? ⟨w.heap.size, 1, none⟩ = some (.int .i64 kd) := by rw [← hW]; simp
  have q2 : W.cell? ⟨w.heap.size, 2, none⟩ = some (.string bo) := by rw [← hW]; simp
  have q3 : W.cell? ⟨w.heap.size, 3, none⟩ = some (.int .i64 ag) := by rw [← hW]; simp
  have q4 : W.cell? ⟨w.heap.size, 4, none⟩ = some (.bool sh) := by rw [← hW]; simp
  have q5 : W.cell? ⟨w.heap.size, 5, none⟩ = some (.string po) := by rw [← hW]; simp
  have HW := Lib.hid hW; clear hW
  obtain ⟨⟨q, ok⟩, hq⟩ : ∃ r, prsP po = r := ⟨_, rfl⟩
  have HP := Lib.hid (hq ▸ prs_spec po hz W)
  have HV := Lib.hid (show isRs st kd bo ag po = (inB st 100 599 && inB kd 1 5 && decide (bo.size ≤ 400) && inB ag 0 1000 && ok) by unfold isRs; rw [hq])
  clear hq hz
  have HI1 := Lib.hid (fun X => lin_any st 100 599 X); have HI2 := Lib.hid (fun X => lin_any kd 1 5 X); have HI3 := Lib.hid (fun X => lin_any ag 0 1000 X)
  cases e1 : inB st 100 599 with
  | false =>
    rw [e1] at HI1 HV; clear e1
    go_enter Tryz.func40, Tryz.ntmps40
    go_wp2_with fail
    rw [HW.out]
    refine HP.out.mono ?_
    rintro e w1 ⟨a1, n1, c1, a2, n2, c2, a3, n3, c3, rfl, -, hb⟩
    replace q0 := (hb.cell (show (⟨w.heap.size, 0, none⟩ : Addr).block < _ from World.block_lt_of_cell? _ _ q0)).trans q0
    replace q1 := (hb.cell (show (⟨w.heap.size, 1, none⟩ : Addr).block < _ from World.block_lt_of_cell? _ _ q1)).trans q1
    replace q2 := (hb.cell (show (⟨w.heap.size, 2, none⟩ : Addr).block < _ from World.block_lt_of_cell? _ _ q2)).trans q2
    replace q3 := (hb.cell (show (⟨w.heap.size, 3, none⟩ : Addr).block < _ from World.block_lt_of_cell? _ _ q3)).trans q3
    replace q4 := (hb.cell (show (⟨w.heap.size, 4, none⟩ : Addr).block < _ from World.block_lt_of_cell? _ _ q4)).trans q4
    replace q5 := (hb.cell (show (⟨w.heap.size, 5, none⟩ : Addr).block < _ from World.block_lt_of_cell? _ _ q5)).trans q5
    replace HB := Lib.hid (HB.out.trans (hb.mono HB.out.size)); clear hb
    go_upto_region 2 with (fail)
    obtain ⟨w2, hw2⟩ : ∃ x, w1.alloc (.cells #[.bool q.set, .slice a1 n1 c1, .slice a2 n2 c2, .slice a3 n3 c3, .string q.non] 26) = x := ⟨_, rfl⟩
    rw [hw2]
    have hb2 : Below w1.heap.size w1 w2 := by rw [← hw2]; exact bl_aw (Below.refl _ _) _
    replace q0 := (hb2.cell (show (⟨w.heap.size, 0, none⟩ : Addr).block < _ from World.block_lt_of_cell? _ _ q0)).trans q0
    replace q1 := (hb2.cell (show (⟨w.heap.size, 1, none⟩ : Addr).block < _ from World.block_lt_of_cell? _ _ q1)).trans q1
    replace q2 := (hb2.cell (show (⟨w.heap.size, 2, none⟩ : Addr).block < _ from World.block_lt_of_cell? _ _ q2)).trans q2
    replace q3 := (hb2.cell (show (⟨w.heap.size, 3, none⟩ : Addr).block < _ from World.block_lt_of_cell? _ _ q3)).trans q3
    replace q4 := (hb2.cell (show (⟨w.heap.size, 4, none⟩ : Addr).block < _ from World.block_lt_of_cell? _ _ q4)).trans q4
    replace q5 := (hb2.cell (show (⟨w.heap.size, 5, none⟩ : Addr).block < _ from World.block_lt_of_cell? _ _ q5)).trans q5
    replace HB := Lib.hid (HB.out.trans (hb2.mono HB.out.size)); clear hb2 hw2
    go_wp2_with fail
    refine (HI1.out _).mono ?_
    rintro e wz ⟨rfl, rfl⟩
    go_wp2_with fail
    go_ret
    exact ⟨by rw [HV.out]; rfl, HB.out⟩
  | true =>
    rw [e1] at HI1 HV; clear e1
    cases e2 : inB kd 1 5 with
    | false =>
      rw [e2] at HI2 HV; clear e2
      go_enter Tryz.func40, Tryz.ntmps40
      go_wp2_with fail
      rw [HW.out]
      refine HP.out.mono ?_
      rintro e w1 ⟨a1, n1, c1, a2, n2, c2, a3, n3, c3, rfl, -, hb⟩
      replace q0 := (hb.cell (show (⟨w.heap.size, 0, none⟩ : Addr).block < _ from World.block_lt_of_cell? _ _ q0)).trans q0
      replace q1 := (hb.cell (show (⟨w.heap.size, 1, none⟩ : Addr).block < _ from World.block_lt_of_cell? _ _ q1)).trans q1
      replace q2 := (hb.cell (show (⟨w.heap.size, 2, none⟩ : Addr).block < _ from World.block_lt_of_cell? _ _ q2)).trans q2
      replace q3 := (hb.cell (show (⟨w.heap.size, 3, none⟩ : Addr).block < _ from World.block_lt_of_cell? _ _ q3)).trans q3
      replace q4 := (hb.cell (show (⟨w.heap.size, 4, none⟩ : Addr).block < _ from World.block_lt_of_cell? _ _ q4)).trans q4
      replace q5 := (hb.cell (show (⟨w.heap.size, 5, none⟩ : Addr).block < _ from World.block_lt_of_cell? _ _ q5)).trans q5
      replace HB := Lib.hid (HB.out.trans (hb.mono HB.out.size)); clear hb
      go_upto_region 2 with (fail)
      obtain ⟨w2, hw2⟩ : ∃ x, w1.alloc (.cells #[.bool q.set, .slice a1 n1 c1, .slice a2 n2 c2, .slice a3 n3 c3, .string q.non] 26) = x := ⟨_, rfl⟩
      rw [hw2]
      have hb2 : Below w1.heap.size w1 w2 := by rw [← hw2]; exact bl_aw (Below.refl _ _) _
      replace q0 := (hb2.cell (show (⟨w.heap.size, 0, none⟩ : Addr).block < _ from World.block_lt_of_cell? _ _ q0)).trans q0
      replace q1 := (hb2.cell (show (⟨w.heap.size, 1, none⟩ : Addr).block < _ from World.block_lt_of_cell? _ _ q1)).trans q1
      replace q2 := (hb2.cell (show (⟨w.heap.size, 2, none⟩ : Addr).block < _ from World.block_lt_of_cell? _ _ q2)).trans q2
      replace q3 := (hb2.cell (show (⟨w.heap.size, 3, none⟩ : Addr).block < _ from World.block_lt_of_cell? _ _ q3)).trans q3
      replace q4 := (hb2.cell (show (⟨w.heap.size, 4, none⟩ : Addr).block < _ from World.block_lt_of_cell? _ _ q4)).trans q4
      replace q5 := (hb2.cell (show (⟨w.heap.size, 5, none⟩ : Addr).block < _ from World.block_lt_of_cell? _ _ q5)).trans q5
      replace HB := Lib.hid (HB.out.trans (hb2.mono HB.out.size)); clear hb2 hw2
      go_wp2_with fail
      refine (HI1.out _).mono ?_
      rintro e wz ⟨rfl, rfl⟩
      go_wp2_with fail
      refine (HI2.out _).mono ?_
      rintro e wz ⟨rfl, rfl⟩
      go_wp2_with fail
      go_ret
      exact ⟨by rw [HV.out]; rfl, HB.out⟩
    | true =>
      rw [e2] at HI2 HV; clear e2
      by_cases h4 : bo.size ≤ 400
      · have d1 : decide ((400 : Int) < (bo.size : Int)) = false := decide_eq_false (by omega); have d2 : decide ((bo.size : Int) ≤ 400) = true := decide_eq_true (by omega); have d3 : ¬ (400 : Int) < (bo.size : Int) := (by omega); have d4 : (bo.size : Int) ≤ 400 := (by omega)
        rw [decide_eq_true h4] at HV; clear h4
        cases e3 : inB ag 0 1000 with
        | false =>
          rw [e3] at HI3 HV; clear e3
          go_enter Tryz.func40, Tryz.ntmps40
          go_wp2_with fail
          rw [HW.out]
          refine HP.out.mono ?_
          rintro e w1 ⟨a1, n1, c1, a2, n2, c2, a3, n3, c3, rfl, -, hb⟩
          replace q0 := (hb.cell (show (⟨w.heap.size, 0, none⟩ : Addr).block < _ from World.block_lt_of_cell? _ _ q0)).trans q0
          replace q1 := (hb.cell (show (⟨w.heap.size, 1, none⟩ : Addr).block < _ from World.block_lt_of_cell? _ _ q1)).trans q1
          replace q2 := (hb.cell (show (⟨w.heap.size, 2, none⟩ : Addr).block < _ from World.block_lt_of_cell? _ _ q2)).trans q2
          replace q3 := (hb.cell (show (⟨w.heap.size, 3, none⟩ : Addr).block < _ from World.block_lt_of_cell? _ _ q3)).trans q3
          replace q4 := (hb.cell (show (⟨w.heap.size, 4, none⟩ : Addr).block < _ from World.block_lt_of_cell? _ _ q4)).trans q4
          replace q5 := (hb.cell (show (⟨w.heap.size, 5, none⟩ : Addr).block < _ from World.block_lt_of_cell? _ _ q5)).trans q5
          replace HB := Lib.hid (HB.out.trans (hb.mono HB.out.size)); clear hb
          go_upto_region 2 with (fail)
          obtain ⟨w2, hw2⟩ : ∃ x, w1.alloc (.cells #[.bool q.set, .slice a1 n1 c1, .slice a2 n2 c2, .slice a3 n3 c3, .string q.non] 26) = x := ⟨_, rfl⟩
          rw [hw2]
          have hb2 : Below w1.heap.size w1 w2 := by rw [← hw2]; exact bl_aw (Below.refl _ _) _
          replace q0 := (hb2.cell (show (⟨w.heap.size, 0, none⟩ : Addr).block < _ from World.block_lt_of_cell? _ _ q0)).trans q0
          replace q1 := (hb2.cell (show (⟨w.heap.size, 1, none⟩ : Addr).block < _ from World.block_lt_of_cell? _ _ q1)).trans q1
          replace q2 := (hb2.cell (show (⟨w.heap.size, 2, none⟩ : Addr).block < _ from World.block_lt_of_cell? _ _ q2)).trans q2
          replace q3 := (hb2.cell (show (⟨w.heap.size, 3, none⟩ : Addr).block < _ from World.block_lt_of_cell? _ _ q3)).trans q3
          replace q4 := (hb2.cell (show (⟨w.heap.size, 4, none⟩ : Addr).block < _ from World.block_lt_of_cell? _ _ q4)).trans q4
          replace q5 := (hb2.cell (show (⟨w.heap.size, 5, none⟩ : Addr).block < _ from World.block_lt_of_cell? _ _ q5)).trans q5
          replace HB := Lib.hid (HB.out.trans (hb2.mono HB.out.size)); clear hb2 hw2
          go_wp2_with fail
          refine (HI1.out _).mono ?_
          rintro e wz ⟨rfl, rfl⟩
          go_wp2_with fail
          refine (HI2.out _).mono ?_
          rintro e wz ⟨rfl, rfl⟩
          go_wp2_with fail
          refine (HI3.out _).mono ?_
          rintro e wz ⟨rfl, rfl⟩
          go_wp2_with fail
          go_ret
          exact ⟨by rw [HV.out]; rfl, HB.out⟩
        | true =>
          rw [e3] at HI3 HV; clear e3
          go_enter Tryz.func40, Tryz.ntmps40
          go_wp2_with fail
          rw [HW.out]
          refine HP.out.mono ?_
          rintro e w1 ⟨a1, n1, c1, a2, n2, c2, a3, n3, c3, rfl, -, hb⟩
          replace q0 := (hb.cell (show (⟨w.heap.size, 0, none⟩ : Addr).block < _ from World.block_lt_of_cell? _ _ q0)).trans q0
          replace q1 := (hb.cell (show (⟨w.heap.size, 1, none⟩ : Addr).block < _ from World.block_lt_of_cell? _ _ q1)).trans q1
          replace q2 := (hb.cell (show (⟨w.heap.size, 2, none⟩ : Addr).block < _ from World.block_lt_of_cell? _ _ q2)).trans q2
          replace q3 := (hb.cell (show (⟨w.heap.size, 3, none⟩ : Addr).block < _ from World.block_lt_of_cell? _ _ q3)).trans q3
          replace q4 := (hb.cell (show (⟨w.heap.size, 4, none⟩ : Addr).block < _ from World.block_lt_of_cell? _ _ q4)).trans q4
          replace q5 := (hb.cell (show (⟨w.heap.size, 5, none⟩ : Addr).block < _ from World.block_lt_of_cell? _ _ q5)).trans q5
          replace HB := Lib.hid (HB.out.trans (hb.mono HB.out.size)); clear hb
          go_upto_region 2 with (fail)
          obtain ⟨w2, hw2⟩ : ∃ x, w1.alloc (.cells #[.bool q.set, .slice a1 n1 c1, .slice a2 n2 c2, .slice a3 n3 c3, .string q.non] 26) = x := ⟨_, rfl⟩
          rw [hw2]
          have hb2 : Below w1.heap.size w1 w2 := by rw [← hw2]; exact bl_aw (Below.refl _ _) _
          replace q0 := (hb2.cell (show (⟨w.heap.size, 0, none⟩ : Addr).block < _ from World.block_lt_of_cell? _ _ q0)).trans q0
          replace q1 := (hb2.cell (show (⟨w.heap.size, 1, none⟩ : Addr).block < _ from World.block_lt_of_cell? _ _ q1)).trans q1
          replace q2 := (hb2.cell (show (⟨w.heap.size, 2, none⟩ : Addr).block < _ from World.block_lt_of_cell? _ _ q2)).trans q2
          replace q3 := (hb2.cell (show (⟨w.heap.size, 3, none⟩ : Addr).block < _ from World.block_lt_of_cell? _ _ q3)).trans q3
          replace q4 := (hb2.cell (show (⟨w.heap.size, 4, none⟩ : Addr).block < _ from World.block_lt_of_cell? _ _ q4)).trans q4
          replace q5 := (hb2.cell (show (⟨w.heap.size, 5, none⟩ : Addr).block < _ from World.block_lt_of_cell? _ _ q5)).trans q5
          replace HB := Lib.hid (HB.out.trans (hb2.mono HB.out.size)); clear hb2 hw2
          go_wp2_with fail
          refine (HI1.out _).mono ?_
          rintro e wz ⟨rfl, rfl⟩
          go_wp2_with fail
          refine (HI2.out _).mono ?_
          rintro e wz ⟨rfl, rfl⟩
          go_wp2_with fail
          refine (HI3.out _).mono ?_
          rintro e wz ⟨rfl, rfl⟩
          go_wp2_with fail
          go_ret
          exact ⟨by rw [HV.out]; rfl, HB.out⟩
      · have d1 : decide ((400 : Int) < (bo.size : Int)) = true := decide_eq_true (by omega); have d2 : decide ((bo.size : Int) ≤ 400) = false := decide_eq_false (by omega); have d3 : (400 : Int) < (bo.size : Int) := (by omega); have d4 : ¬ (bo.size : Int) ≤ 400 := (by omega)
        rw [decide_eq_false h4] at HV; clear h4
        go_enter Tryz.func40, Tryz.ntmps40
        go_wp2_with fail
        rw [HW.out]
        refine HP.out.mono ?_
        rintro e w1 ⟨a1, n1, c1, a2, n2, c2, a3, n3, c3, rfl, -, hb⟩
        replace q0 := (hb.cell (show (⟨w.heap.size, 0, none⟩ : Addr).block < _ from World.block_lt_of_cell? _ _ q0)).trans q0
        replace q1 := (hb.cell (show (⟨w.heap.size, 1, none⟩ : Addr).block < _ from World.block_lt_of_cell? _ _ q1)).trans q1
        replace q2 := (hb.cell (show (⟨w.heap.size, 2, none⟩ : Addr).block < _ from World.block_lt_of_cell? _ _ q2)).trans q2
        replace q3 := (hb.cell (show (⟨w.heap.size, 3, none⟩ : Addr).block < _ from World.block_lt_of_cell? _ _ q3)).trans q3
        replace q4 := (hb.cell (show (⟨w.heap.size, 4, none⟩ : Addr).block < _ from World.block_lt_of_cell? _ _ q4)).trans q4
        replace q5 := (hb.cell (show (⟨w.heap.size, 5, none⟩ : Addr).block < _ from World.block_lt_of_cell? _ _ q5)).trans q5
        replace HB := Lib.hid (HB.out.trans (hb.mono HB.out.size)); clear hb
        go_upto_region 2 with (fail)
        obtain ⟨w2, hw2⟩ : ∃ x, w1.alloc (.cells #[.bool q.set, .slice a1 n1 c1, .slice a2 n2 c2, .slice a3 n3 c3, .string q.non] 26) = x := ⟨_, rfl⟩
        rw [hw2]
        have hb2 : Below w1.heap.size w1 w2 := by rw [← hw2]; exact bl_aw (Below.refl _ _) _
        replace q0 := (hb2.cell (show (⟨w.heap.size, 0, none⟩ : Addr).block < _ from World.block_lt_of_cell? _ _ q0)).trans q0
        replace q1 := (hb2.cell (show (⟨w.heap.size, 1, none⟩ : Addr).block < _ from World.block_lt_of_cell? _ _ q1)).trans q1
        replace q2 := (hb2.cell (show (⟨w.heap.size, 2, none⟩ : Addr).block < _ from World.block_lt_of_cell? _ _ q2)).trans q2
        replace q3 := (hb2.cell (show (⟨w.heap.size, 3, none⟩ : Addr).block < _ from World.block_lt_of_cell? _ _ q3)).trans q3
        replace q4 := (hb2.cell (show (⟨w.heap.size, 4, none⟩ : Addr).block < _ from World.block_lt_of_cell? _ _ q4)).trans q4
        replace q5 := (hb2.cell (show (⟨w.heap.size, 5, none⟩ : Addr).block < _ from World.block_lt_of_cell? _ _ q5)).trans q5
        replace HB := Lib.hid (HB.out.trans (hb2.mono HB.out.size)); clear hb2 hw2
        go_wp2_with fail
        refine (HI1.out _).mono ?_
        rintro e wz ⟨rfl, rfl⟩
        go_wp2_with fail
        refine (HI2.out _).mono ?_
        rintro e wz ⟨rfl, rfl⟩
        go_wp2_with fail
        go_ret
        exact ⟨by rw [HV.out]; rfl, HB.out⟩

set_option maxRecDepth 100000 in
set_option maxHeartbeats 2000000 in
theorem isRs_impl (st kd : Int) (bo : ByteArray) (ag : Int) (sh : Bool) (po : ByteArray) (hz : po.size ≤ 1048576) (w : World) (hm : Max0 w) :
    Calls Tryz.prog 39 #[.agg #[.int .i64 st, .int .i64 kd, .string bo, .int .i64 ag, .bool sh, .string po]] w fun e w' => e = .returned (.bool (isRs st kd bo ag po)) ∧ Below w.heap.size w w' := by
  obtain ⟨W, hW⟩ : ∃ W, w.alloc (.cells #[.int .i64 st, .int .i64 kd, .string bo, .int .i64 ag, .bool sh, .string po] 32) = W := ⟨_, rfl⟩
  have HB := Lib.hid (show Below w.heap.size w W by rw [← hW]; exact bl_aw (Below.refl _ _) _)
  have q0 : W.cell? ⟨w.heap.size, 0, none⟩ = some (.int .i64 st) := by rw [← hW]; simp
  have q1 : W.cell? ⟨w.heap.size, 1, none⟩ = some (.int .i64 kd) := by rw [← hW]; simp
  have q2 : W.cell? ⟨w.heap.size, 2, none⟩ = some (.string bo) := by rw [← hW]; simp
  have q3 : W.cell? ⟨w.heap.size, 3, none⟩ = some (.int .i64 ag) := by rw [← hW]; simp
  have q4 : W.cell? ⟨w.heap.size, 4, none⟩ = some (.bool sh) := by rw [← hW]; simp
  have q5 : W.cell? ⟨w.heap.size, 5, none⟩ = some (.string po) := by rw [← hW]; simp
  have HW := Lib.hid hW; clear hW
  obtain ⟨⟨q, ok⟩, hq⟩ : ∃ r, prsP po = r := ⟨_, rfl⟩
  have HP := Lib.hid (hq ▸ prs_impl po hz W (hm.on HB.out))
  have HV := Lib.hid (show isRs st kd bo ag po = (inB st 100 599 && inB kd 1 5 && decide (bo.size ≤ 400) && inB ag 0 1000 && ok) by unfold isRs; rw [hq])
  clear hq hz hm
  have HI1 := Lib.hid (fun X => rin_any st 100 599 X); have HI2 := Lib.hid (fun X => rin_any kd 1 5 X); have HI3 := Lib.hid (fun X => rin_any ag 0 1000 X)
  cases e1 : inB st 100 599 with
  | false =>
    rw [e1] at HI1 HV; clear e1
    go_enter Tryz.func39, Tryz.ntmps39
    go_wp2_with fail
    rw [HW.out]
    refine (HI1.out _).mono ?_
    rintro e wz ⟨rfl, rfl⟩
    go_wp2_with fail
    go_ret
    exact ⟨by rw [HV.out]; rfl, HB.out⟩
  | true =>
    rw [e1] at HI1 HV; clear e1
    cases e2 : inB kd 1 5 with
    | false =>
      rw [e2] at HI2 HV; clear e2
      go_enter Tryz.func39, Tryz.ntmps39
      go_wp2_with fail
      rw [HW.out]
      refine (HI1.out _).mono ?_
      rintro e wz ⟨rfl, rfl⟩
      go_wp2_with fail
      refine (HI2.out _).mono ?_
      rintro e wz ⟨rfl, rfl⟩
      go_wp2_with fail
      go_ret
      exact ⟨by rw [HV.out]; rfl, HB.out⟩
    | true =>
      rw [e2] at HI2 HV; clear e2
      by_cases h4 : bo.size ≤ 400
      · have d1 : decide ((400 : Int) < (bo.size : Int)) = false := decide_eq_false (by omega); have d2 : decide ((bo.size : Int) ≤ 400) = true := decide_eq_true (by omega); have d3 : ¬ (400 : Int) < (bo.size : Int) := (by omega); have d4 : (bo.size : Int) ≤ 400 := (by omega)
        rw [decide_eq_true h4] at HV; clear h4
        cases e3 : inB ag 0 1000 with
        | false =>
          rw [e3] at HI3 HV; clear e3
          go_enter Tryz.func39, Tryz.ntmps39
          go_wp2_with fail
          rw [HW.out]
          refine (HI1.out _).mono ?_
          rintro e wz ⟨rfl, rfl⟩
          go_wp2_with fail
          refine (HI2.out _).mono ?_
          rintro e wz ⟨rfl, rfl⟩
          go_wp2_with fail
          refine (HI3.out _).mono ?_
          rintro e wz ⟨rfl, rfl⟩
          go_wp2_with fail
          go_ret
          exact ⟨by rw [HV.out]; rfl, HB.out⟩
        | true =>
          rw [e3] at HI3 HV; clear e3
          go_enter Tryz.func39, Tryz.ntmps39
          go_wp2_with fail
          rw [HW.out]
          refine (HI1.out _).mono ?_
          rintro e wz ⟨rfl, rfl⟩
          go_wp2_with fail
          refine (HI2.out _).mono ?_
          rintro e wz ⟨rfl, rfl⟩
          go_wp2_with fail
          refine (HI3.out _).mono ?_
          rintro e wz ⟨rfl, rfl⟩
          go_wp2_with fail
          refine HP.out.mono ?_
          rintro e w1 ⟨a1, n1, c1, a2, n2, c2, a3, n3, c3, rfl, -, hb⟩
          replace HB := Lib.hid (HB.out.trans (hb.mono HB.out.size)); clear hb
          go_wp2_with fail
          go_ret
          exact ⟨by rw [HV.out]; rfl, HB.out.alloc HB.out.size _⟩
      · have d1 : decide ((400 : Int) < (bo.size : Int)) = true := decide_eq_true (by omega); have d2 : decide ((bo.size : Int) ≤ 400) = false := decide_eq_false (by omega); have d3 : (400 : Int) < (bo.size : Int) := (by omega); have d4 : ¬ (bo.size : Int) ≤ 400 := (by omega)
        rw [decide_eq_false h4] at HV; clear h4
        go_enter Tryz.func39, Tryz.ntmps39
        go_wp2_with fail
        rw [HW.out]
        refine (HI1.out _).mono ?_
        rintro e wz ⟨rfl, rfl⟩
        go_wp2_with fail
        refine (HI2.out _).mono ?_
        rintro e wz ⟨rfl, rfl⟩
        go_wp2_with fail
        go_ret
        exact ⟨by rw [HV.out]; rfl, HB.out⟩

end Go.Proofs.YtkjjiinccljhjaaGreatDoor
namespace Go.Proofs.YtkjjiinccljhjaaGreatDoor
open Go

theorem decFrom_snoc : ∀ (l : List UInt8) (acc n : Nat) (b : UInt8) (d : Nat), Lib.decFrom acc l = some n → Lib.digitVal b = some d → Lib.decFrom acc (l ++ [b]) = some (n * 10 + d)
  | [], acc, n, b, d, h, hb => by
    simp only [Lib.decFrom, Option.some.injEq] at h; subst h
    simp [Lib.decFrom, hb]
  | a :: t, acc, n, b, d, h, hb => by
    simp only [Lib.decFrom, List.cons_append] at h ⊢
    cases ha : Lib.digitVal a with
    | none => simp [ha] at h
    | some e =>
      simp only [ha] at h ⊢
      exact decFrom_snoc t _ n b d h hb
theorem digitVal_of {r : Nat} (h : r < 10) : Lib.digitVal (UInt8.ofNat (48 + r)) = some r := by
  unfold Lib.digitVal
  have e : (UInt8.ofNat (48 + r)).toNat = 48 + r := by simp; omega
  rw [e, if_pos (by omega)]
  congr 1; omega
theorem decFrom_dec (k : Nat) : Lib.decFrom 0 (Lib.decDigits k) = some k := by
  induction k using Nat.strongRecOn with
  | _ k ih =>
    rw [Lib.decDigits]
    by_cases h : k < 10
    · rw [dif_pos h]
      have := decFrom_snoc [] 0 0 _ _ rfl (digitVal_of h)
      simpa using this
    · rw [dif_neg h]
      have := decFrom_snoc _ 0 _ _ _ (ih (k / 10) (by omega)) (digitVal_of (r := k % 10) (by omega))
      rw [this]; congr 1; omega
theorem nDigits_le : ∀ (j u : Nat), u < 10 ^ (j + 1) → Lib.nDigits u ≤ j + 1
  | 0, u, h => by rw [Lib.nDigits_small (by simpa using h)]; exact Nat.le_refl _
  | j + 1, u, h => by
    by_cases h1 : u < 10
    · rw [Lib.nDigits_small h1]; omega
    · rw [Lib.nDigits_big h1]
      have := nDigits_le j (u / 10) (by rw [Nat.pow_succ] at h; omega)
      omega
theorem dec_len13 {k : Nat} (h : k ≤ 1000000000000) : (Lib.decDigits k).length ≤ 13 := by
  rw [Lib.decDigits_length]
  exact nDigits_le 12 k (by have e : (10 : Nat) ^ (12 + 1) = 10000000000000 := by decide
                            omega)
theorem dec_len1 (k : Nat) : 1 ≤ (Lib.decDigits k).length := by rw [Lib.decDigits_length]; exact Lib.nDigits_pos k
theorem atoi_dec {k : Nat} : Lib.atoi (Lib.decDigits k) = some (k : Int) := by
  have h := decFrom_dec k
  have hl := dec_len1 k
  generalize Lib.decDigits k = l at h hl
  cases l with
  | nil => simp at hl
  | cons b r =>
    obtain ⟨d, hd⟩ := Lib.digit_of_decFrom _ _ _ h 0 b rfl
    obtain ⟨h1, h2, _⟩ := Lib.digitVal_eq hd
    have n45 : (b == 45) = false := by
      rw [beq_eq_false_iff_ne]; intro e; subst e; simp at h1
    have n43 : (b == 43) = false := by
      rw [beq_eq_false_iff_ne]; intro e; subst e; simp at h1
    simp only [Lib.atoi, n45, n43, Lib.decNat, List.isEmpty_cons, h]
    simp
theorem atoiAll_dec {k : Nat} (h : k ≤ 1000000000000) : Lib.atoiAll (Lib.decDigits k) = .ok (k : Int) := by
  have := dec_len13 h
  rw [Lib.atoiAll_short _ (by omega), atoi_dec]
  rfl

/-- The number, at most 1000000000000, whose numeral the bytes are; none if there is no such number. -/
def numOf (l : List UInt8) : Option Nat :=
  match Lib.decFrom 0 l with
  | some k => if k ≤ 1000000000000 ∧ Lib.decDigits k = l then some k else none
  | none => none
theorem numOf_some {l : List UInt8} {k : Nat} (h : numOf l = some k) : k ≤ 1000000000000 ∧ l = Lib.decDigits k := by
  unfold numOf at h
  split at h
  · split at h
    · rename_i hc
      simp only [Option.some.injEq] at h; subst h
      exact ⟨hc.1, hc.2.symm⟩
    · cases h
  · cases h
theorem numOf_dec {k : Nat} (h : k ≤ 1000000000000) : numOf (Lib.decDigits k) = some k := by
  unfold numOf
  rw [decFrom_dec]
  exact if_pos ⟨h, rfl⟩
theorem numOf_eq {l : List UInt8} {k : Nat} (h : k ≤ 1000000000000) (e : Lib.decDigits k = l) : numOf l = some k := by rw [← e]; exact numOf_dec h
theorem numOf_none {l : List UInt8} (h : ∀ k, k ≤ 1000000000000 → Lib.decDigits k ≠ l) : numOf l = none := by
  cases e : numOf l with
  | none => rfl
  | some k =>
    obtain ⟨h1, h2⟩ := numOf_some e
    exact absurd h2.symm (h k h1)
/-- By how strconv.Atoi ends. -/
theorem numOf_syntax {l : List UInt8} (h : Lib.atoiAll l = Lib.atoiAll []) : numOf l = none :=
  numOf_none fun k hk e => by rw [← e, atoiAll_dec hk] at h; cases h
theorem numOf_range {l : List UInt8} (h : Lib.atoiAll l = .range) : numOf l = none :=
  numOf_none fun k hk e => by rw [← e, atoiAll_dec hk] at h; cases h
theorem numOf_out {l : List UInt8} {n : Int} (h : Lib.atoiAll l = .ok n) (ho : n < 0 ∨ 1000000000000 < n) : numOf l = none :=
  numOf_none fun k hk e => by
    rw [← e, atoiAll_dec hk] at h
    injection h with h
    omega
theorem numOf_other {l : List UInt8} {n : Nat} (h : Lib.atoiAll l = .ok (n : Int)) (hn : Lib.decDigits n ≠ l) : numOf l = none :=
  numOf_none fun k hk e => by
    have h' := h
    rw [← e, atoiAll_dec hk] at h'
    injection h' with h'
    have : k = n := by omega
    subst this
    exact hn e
/-- By what the model's loop has read. -/
theorem numOf_len {l : List UInt8} (h : l.length < 1 ∨ 13 < l.length) : numOf l = none :=
  numOf_none fun k hk e => by
    have h1 := dec_len13 hk
    have h2 := dec_len1 k
    rw [e] at h1 h2
    omega
theorem numOf_byte {l : List UInt8} {j : Nat} {b : UInt8} (hb : l[j]? = some b) (hd : b.toNat < 48 ∨ 57 < b.toNat) : numOf l = none :=
  numOf_none fun k hk e => by
    have h := decFrom_dec k
    rw [e] at h
    obtain ⟨d, h1⟩ := Lib.digit_of_decFrom _ _ _ h j b hb
    obtain ⟨h2, h3, _⟩ := Lib.digitVal_eq h1
    omega
theorem numOf_val {l : List UInt8} {n : Nat} (h : Lib.decFrom 0 l = some n) (ho : 1000000000000 < n ∨ Lib.decDigits n ≠ l) : numOf l = none := by
  unfold numOf
  rw [h]
  exact if_neg (by intro ⟨h1, h2⟩; rcases ho with ho | ho; omega; exact ho h2)
theorem decFrom_step {l : List UInt8} {k n : Nat} {b : UInt8} (h : Lib.decFrom 0 (l.take k) = some n) (hb : l[k]? = some b) (h1 : 48 ≤ b.toNat) (h2 : b.toNat ≤ 57) : Lib.decFrom 0 (l.take (k + 1)) = some (n * 10 + (b.toNat - 48)) :=
  Lib.decFrom_take l k 0 n b _ h hb (by unfold Lib.digitVal; rw [if_pos ⟨h1, h2⟩])
theorem decFrom_lt13 {l : List UInt8} {k n : Nat} (h : Lib.decFrom 0 (l.take k) = some n) (hl : l.length ≤ 13) : n < 10000000000000 := by
  have h1 := Lib.decFrom_lt _ 0 n h
  have h2 : (l.take k).length ≤ 13 := by rw [List.length_take]; omega
  have h3 := Nat.pow_le_pow_right (n := 10) (by decide) h2
  have e : (10 : Nat) ^ 13 = 10000000000000 := by decide
  omega

end Go.Proofs.YtkjjiinccljhjaaGreatDoor
namespace Go.Proofs.YtkjjiinccljhjaaGreatDoor
theorem dec_inj {a b : Nat} (h : Lib.decDigits a = Lib.decDigits b) : a = b := by
  have h1 := decFrom_dec a
  rw [h, decFrom_dec b] at h1
  exact (Option.some.inj h1).symm
theorem fmtS_next {D : Int} (h0 : 0 ≤ D) : fmtS (D + 1) ≠ fmtS D := by
  obtain ⟨k, rfl⟩ := Int.eq_ofNat_of_zero_le h0
  intro e
  have h1 : Lib.itoa ((k : Int) + 1) = Lib.itoa (k : Int) := by
    have h2 := congrArg (fun s : ByteArray => s.data.toList) e
    exact h2
  rw [show ((k : Int) + 1) = ((k + 1 : Nat) : Int) from rfl, Lib.itoa_nonneg, Lib.itoa_nonneg] at h1
  have := dec_inj h1
  omega
theorem fmtS_one {D : Int} (h0 : 0 ≤ D) : (fmtS D).size ≠ 0 := by
  obtain ⟨k, rfl⟩ := Int.eq_ofNat_of_zero_le h0
  have e : (fmtS (k : Int)).size = (Lib.itoa (k : Int)).length := by unfold fmtS; rw [ByteArray.size]; simp
  rw [e, Lib.itoa_nonneg]
  have := dec_len1 k
  omega

end Go.Proofs.YtkjjiinccljhjaaGreatDoor
namespace Go.Proofs.YtkjjiinccljhjaaGreatDoor
open Go.ChangeShapes Go.WideShapes Go.ChangeAt Go.RowKit

/-- A world behind w in which of what lay in w nothing is written. -/
structure BelowBy (w : World) where
  at' : World
  hb : Below w.heap.size w at'
theorem wp_region_quiet_below {P : Program} {id : Nat} {Q : Exit → Act → World → Prop} {a : Act} {w : World} {l : List Oper} (hm : P.follows .mixedOrders = true) (hB : Region.lexB .any l.toArray = true)
    (h : wpQuiet P l.toArray (fun w' => ∃ p : BelowBy w, w' = p.at') (fun a' => ∀ w', (∃ p : BelowBy w, w' = p.at') → Q .normal a' w') l a) : (Code.region id l.toArray true).wp P Q a w :=
  wp_region_quiet (C := fun w' => ∃ p : BelowBy w, w' = p.at') hm hB ⟨⟨w.drew, (Below.refl _ w).drew⟩, rfl⟩ (by simpa using h)
theorem Calls.below_of {P : Program} {f : FuncId} {args : Array Value} {w : World} (p : BelowBy w) {v : Value} (h : Calls P f args p.at' fun e w' => e = .returned v ∧ Below p.at'.heap.size p.at' w') :
    Calls P f args p.at' fun e w'' => e = .returned v ∧ ∃ q : BelowBy w, w'' = q.at' :=
  h.mono fun _ w' ⟨he, hb⟩ => ⟨he, ⟨w', p.hb.trans (hb.mono p.hb.size)⟩, rfl⟩
theorem cell_below {w : World} {a : Addr} {v : Value} (hb : a.block < w.heap.size) (h : w.cell? a = some v) (p : BelowBy w) : p.at'.cell? a = some v := (p.hb.cell hb).trans h

end Go.Proofs.YtkjjiinccljhjaaGreatDoor
namespace Go.Proofs.YtkjjiinccljhjaaGreatDoor
open Go.ChangeShapes Go.WideShapes Go.ChangeAt Go.RowKit

theorem mixedD : Tryz.prog.follows .mixedOrders = true := by kernel_rfl
theorem nf_field : ∀ W : World, Sem.run Tryz.prog (Instr.field 32 (.agg #[.int .i64 404, .int .i64 1, .string ⟨#[]⟩, .int .i64 0, .bool false, .string ⟨#[]⟩]) 0) W = Result.ok (.int .i64 404) W := fun W => by
  first | kernel_rfl | rfl | (simp [Instr.field, go_sem]; done)
theorem beqL_dec (a b : ByteArray) : (a.toList == b.toList) = decide (a = b) := by
  by_cases h : a = b
  · rw [beqL_yes h, decide_eq_true h]
  · rw [beqL_no h, decide_eq_false h]
set_option maxRecDepth 100000 in
set_option maxHeartbeats 8000000 in
theorem digests_walk (a_c : Option Addr) (len_c cap_c : Nat) (w : World) (hm : Max0 w) (htab : Lib.TabIs Tryz.prog w "internal/strconv.uint64pow10" .u64 Lib.pow10Tab) (r_c : CodeOk w.heap.size w (.slice a_c len_c cap_c) len_c) (hb_c : ¬ (1048576 : Int) < (len_c : Int)) :
    Calls Tryz.prog 6 #[.slice a_c len_c cap_c] w fun e w' => e = .returned (.bool true) ∧ Below w.heap.size w w' := by
  have HM := Lib.hid hm; have HT := Lib.hid (Lib.tabBelow_of_tabIs htab); clear hm htab
  have HCO := Lib.hid r_c; clear r_c
  go_enter Tryz.func6, Tryz.ntmps6
  go_wp2_with fail
  refine (big_no a_c len_c cap_c _ (by omega)).mono ?_
  rintro e w1 ⟨rfl, rfl⟩
  have HB := Lib.hid (Below.refl w.heap.size w)
  go_wp2_with fail
  refine (drawChk_any _ len_c _ HCO.out).mono ?_
  rintro e w2 ⟨s, v, rfl, hs, hb⟩
  replace HB := Lib.hid (HB.out.trans (hb.mono HB.out.size)); clear hb
  have HZ := Lib.hid hs; clear hs
  have hbd := digN_bd s; obtain ⟨D, hD⟩ : ∃ D, digN s = D := ⟨_, rfl⟩
  rw [hD] at hbd; have HD := Lib.hid hD; clear hD
  go_wp2_with fail
  refine ((HD.out ▸ dig_impl s _ (by have := HZ.out; omega))).mono ?_
  rintro e w3 ⟨rfl, hb⟩
  replace HB := Lib.hid (HB.out.trans (hb.mono HB.out.size)); clear hb
  go_wp2_with fail
  refine (drawIsRsp_any _ len_c _ (codeOk_later HCO.out HB.out)).mono ?_
  rintro e w4 ⟨stx, kdx, box, agx, shx, pox, rfl, hfx, hb⟩
  replace HB := Lib.hid (HB.out.trans (hb.mono HB.out.size)); clear hb
  have HFX := Lib.hid hfx; clear hfx
  go_wp2_with fail
  obtain ⟨w5, hw⟩ : ∃ x, (w4.alloc (.cells #[.int .i64 stx, .int .i64 kdx, .string box, .int .i64 agx, .bool shx, .string pox] 32)) = x := ⟨_, rfl⟩
  rw [hw]
  have hb : Below w4.heap.size w4 w5 := by rw [← hw]; exact (bl_aw (Below.refl _ _) _)
  have Xx := Lib.hid (show w5.heap[w4.heap.size]? = some (.cells #[.int .i64 stx, .int .i64 kdx, .string box, .int .i64 agx, .bool shx, .string pox] 32 (0, 0)) by rw [← hw]; exact heap_alloc_new w4 _)
  replace HB := Lib.hid (HB.out.trans (hb.mono HB.out.size)); clear hb
  clear hw
  refine (drawFits_any _ len_c _ (codeOk_later HCO.out HB.out)).mono ?_
  rintro e w6 ⟨sty, kdy, boy, agy, shy, poy, k, rfl, hfy, hb⟩
  replace Xx := Lib.hid (below_heap hb (heap_lt Xx.out) Xx.out)
  replace HB := Lib.hid (HB.out.trans (hb.mono HB.out.size)); clear hb
  have HFY := Lib.hid hfy; clear hfy
  go_wp2_with fail
  obtain ⟨w7, hw⟩ : ∃ x, (w6.alloc (.cells #[.int .i64 sty, .int .i64 kdy, .string boy, .int .i64 agy, .bool shy, .string poy] 32)) = x := ⟨_, rfl⟩
  rw [hw]
  have hb : Below w6.heap.size w6 w7 := by rw [← hw]; exact (bl_aw (Below.refl _ _) _)
  have Xy := Lib.hid (show w7.heap[w6.heap.size]? = some (.cells #[.int .i64 sty, .int .i64 kdy, .string boy, .int .i64 agy, .bool shy, .string poy] 32 (0, 0)) by rw [← hw]; exact heap_alloc_new w6 _)
  replace Xx := Lib.hid (below_heap hb (heap_lt Xx.out) Xx.out)
  replace HB := Lib.hid (HB.out.trans (hb.mono HB.out.size)); clear hb
  clear hw
  have HC := Lib.hid (fun X v h => chk_impl s v X (by have := HZ.out; omega) h)
  have hd0 : -9223372036854775808 ≤ D := by omega
  have hd1 : D ≤ 9223372036854775807 := by omega
  have HFD := Lib.hid (fun X => fmt_spec D hd0 hd1 X); have HFD1 := Lib.hid (fun X => fmt_spec (D + 1) (by omega) (by omega) X)
  have HOK := Lib.hid (show chB s (fmtS D) = true by unfold chB; rw [HD.out]; simp)
  have HNO := Lib.hid (show chB s (fmtS (D + 1)) = false by unfold chB; rw [HD.out, decide_eq_false (fmtS_one (show 0 ≤ D + 1 by omega)), decide_eq_false (fmtS_next hbd.1)]; rfl)
  obtain ⟨RX, hRX⟩ : ∃ b, isRs stx kdx box agx pox = b := ⟨_, rfl⟩
  have HXI := Lib.hid (fun X h => hRX ▸ isRs_impl stx kdx box agx shx pox HFX.out.2 X h); have HXS := Lib.hid (fun X => hRX ▸ isRs_spec stx kdx box agx shx pox HFX.out.2 X)
  obtain ⟨FY, hFY⟩ : ∃ b, fitB kdy k = b := ⟨_, rfl⟩
  have HYI := Lib.hid (fun X => hFY ▸ fits_impl sty kdy boy agy shy poy k X); have HYS := Lib.hid (fun X => hFY ▸ fits_spec sty kdy boy agy shy poy k X)
  have eRX : (RX == RX) = true := beq_self_eq_true _; have eFY : (FY == FY) = true := beq_self_eq_true _
  clear hRX hFY
  have hbz : box.size ≤ 6000 := HFX.out.1
  have HKP := Lib.hid (fun (p : BelowBy w7) => HB.out.trans (p.hb.mono HB.out.size))
  have QV := Lib.hid (fun (p : BelowBy w7) => HC.out p.at' v (HT.out _ (HKP.out p))); have QOK := Lib.hid (fun (p : BelowBy w7) => show Calls Tryz.prog 38 #[.string s, .string (fmtS D)] p.at' fun e w' => e = .returned (.bool true) ∧ Below p.at'.heap.size p.at' w' from (by have h := HC.out p.at' (fmtS D) (HT.out _ (HKP.out p)); rw [HOK.out] at h; exact h)); have QNO := Lib.hid (fun (p : BelowBy w7) => show Calls Tryz.prog 38 #[.string s, .string (fmtS (D + 1))] p.at' fun e w' => e = .returned (.bool false) ∧ Below p.at'.heap.size p.at' w' from (by have h := HC.out p.at' (fmtS (D + 1)) (HT.out _ (HKP.out p)); rw [HNO.out] at h; exact h))
  have QD := Lib.hid (fun (p : BelowBy w7) => HD.out ▸ dig_spec s p.at' (by have := HZ.out; omega))
  have QXI := Lib.hid (fun (p : BelowBy w7) => HXI.out p.at' (HM.out.on (HKP.out p)))
  have QZ := Lib.hid (fun (p : BelowBy w7) => isRs_impl 0 0 ⟨#[]⟩ 0 false ⟨#[]⟩ (by decide) p.at' (HM.out.on (HKP.out p)))
  rw [show isRs 0 0 ⟨#[]⟩ 0 ⟨#[]⟩ = false from rfl] at QZ
  have QYI := Lib.hid (fun (p : BelowBy w7) => (HYI.out p.at').mono fun _ _ h => And.imp_right Grw.below h); have QYS := Lib.hid (fun (p : BelowBy w7) => (HYS.out p.at').mono fun _ _ h => And.imp_right Grw.below h)
  have QS := Lib.hid (fun (p : BelowBy w7) => (size_impl stx kdx box agx shx pox (by omega) p.at').mono fun _ _ h => And.imp_right Grw.below h); have QN := Lib.hid (fun (p : BelowBy w7) => (nf_impl p.at').mono fun _ _ h => And.imp_right Grw.below h)
  have hfl := nf_field
  have hne : Nonempty (BelowBy w7) := ⟨⟨w7, Below.refl _ _⟩⟩
  have cx0 := cell_below (w := w7) (heap_lt Xx.out) (show w7.cell? ⟨w4.heap.size, 0, none⟩ = some (.int .i64 stx) from box_cell Xx.out (j := 0) rfl)
  have cx1 := cell_below (w := w7) (heap_lt Xx.out) (show w7.cell? ⟨w4.heap.size, 1, none⟩ = some (.int .i64 kdx) from box_cell Xx.out (j := 1) rfl)
  have cx2 := cell_below (w := w7) (heap_lt Xx.out) (show w7.cell? ⟨w4.heap.size, 2, none⟩ = some (.string box) from box_cell Xx.out (j := 2) rfl)
  have cx3 := cell_below (w := w7) (heap_lt Xx.out) (show w7.cell? ⟨w4.heap.size, 3, none⟩ = some (.int .i64 agx) from box_cell Xx.out (j := 3) rfl)
  have cx4 := cell_below (w := w7) (heap_lt Xx.out) (show w7.cell? ⟨w4.heap.size, 4, none⟩ = some (.bool shx) from box_cell Xx.out (j := 4) rfl)
  have cx5 := cell_below (w := w7) (heap_lt Xx.out) (show w7.cell? ⟨w4.heap.size, 5, none⟩ = some (.string pox) from box_cell Xx.out (j := 5) rfl)
  have cy0 := cell_below (w := w7) (heap_lt Xy.out) (show w7.cell? ⟨w6.heap.size, 0, none⟩ = some (.int .i64 sty) from box_cell Xy.out (j := 0) rfl)
  have cy1 := cell_below (w := w7) (heap_lt Xy.out) (show w7.cell? ⟨w6.heap.size, 1, none⟩ = some (.int .i64 kdy) from box_cell Xy.out (j := 1) rfl)
  have cy2 := cell_below (w := w7) (heap_lt Xy.out) (show w7.cell? ⟨w6.heap.size, 2, none⟩ = some (.string boy) from box_cell Xy.out (j := 2) rfl)
  have cy3 := cell_below (w := w7) (heap_lt Xy.out) (show w7.cell? ⟨w6.heap.size, 3, none⟩ = some (.int .i64 agy) from box_cell Xy.out (j := 3) rfl)
  have cy4 := cell_below (w := w7) (heap_lt Xy.out) (show w7.cell? ⟨w6.heap.size, 4, none⟩ = some (.bool shy) from box_cell Xy.out (j := 4) rfl)
  have cy5 := cell_below (w := w7) (heap_lt Xy.out) (show w7.cell? ⟨w6.heap.size, 5, none⟩ = some (.string poy) from box_cell Xy.out (j := 5) rfl)
  by_cases h0 : v.size = 0
  · skip
    have e1 : (v.toList == []) = true := by rw [empD_size, decide_eq_true h0]
    have HV := Lib.hid (show chB s v = true by unfold chB; rw [decide_eq_true h0]; rfl); clear h0
    rw [HV.out] at QV; clear HV
    clear HC HOK HNO HXI HYI HYS HFX HFY HKP HM HT HCO HD HZ
    simp only [List.append_eq, List.cons_append, List.nil_append]
    refine wp_region_quiet_below mixedD (by kernel_rfl) ?_
    repeat (go_big_quiet_step (first | (go_at_call 38; with_reducible refine Calls.below_of _ (QV.out _)) | (go_at_call 38; with_reducible refine Calls.below_of _ (QOK.out _)) | (go_at_call 38; with_reducible refine Calls.below_of _ (QNO.out _)) | (go_at_call 19; with_reducible refine Calls.below_of _ (HFD.out _)) | (go_at_call 19; with_reducible refine Calls.below_of _ (HFD1.out _)) | (go_at_call 20; with_reducible refine Calls.below_of _ (QD.out _)) | (go_at_call 39; with_reducible refine Calls.below_of _ (QXI.out _)) | (go_at_call 40; with_reducible refine Calls.below_of _ (HXS.out _)) | (go_at_call 39; with_reducible refine Calls.below_of _ (QZ.out _)) | (go_at_call 41; with_reducible refine Calls.below_of _ (QYI.out _)) | (go_at_call 18; with_reducible refine Calls.below_of _ (QYS.out _)) | (go_at_call 42; with_reducible refine Calls.below_of _ (QS.out _)) | (go_at_call 43; with_reducible refine Calls.below_of _ (QN.out _))))
    refine wpQuiet_nil ?_
    intro _ hw'; obtain ⟨⟨wy, hbz2⟩, hw''⟩ := hw'; subst hw''
    clear cx0 cx1 cx2 cx3 cx4 cx5 cy0 cy1 cy2 cy3 cy4 cy5
    go_wp2_with fail
    go_ret
    exact ⟨rfl, HB.out.trans (hbz2.mono HB.out.size)⟩
  · skip
    have e1 : (v.toList == []) = false := by rw [empD_size, decide_eq_false h0]
    obtain ⟨V, hV⟩ : ∃ V, (v.toList == (fmtS D).toList) = V := ⟨_, rfl⟩
    have HV := Lib.hid (show chB s v = V by unfold chB; rw [decide_eq_false h0, HD.out, Bool.false_or, ← hV]; exact (beqL_dec v (fmtS D)).symm); clear h0
    have eV : (V == V) = true := beq_self_eq_true _
    rw [HV.out] at QV; clear HV
    clear HC HOK HNO HXI HYI HYS HFX HFY HKP HM HT HCO HD HZ
    simp only [List.append_eq, List.cons_append, List.nil_append]
    refine wp_region_quiet_below mixedD (by kernel_rfl) ?_
    repeat (go_big_quiet_step (first | (go_at_call 38; with_reducible refine Calls.below_of _ (QV.out _)) | (go_at_call 38; with_reducible refine Calls.below_of _ (QOK.out _)) | (go_at_call 38; with_reducible refine Calls.below_of _ (QNO.out _)) | (go_at_call 19; with_reducible refine Calls.below_of _ (HFD.out _)) | (go_at_call 19; with_reducible refine Calls.below_of _ (HFD1.out _)) | (go_at_call 20; with_reducible refine Calls.below_of _ (QD.out _)) | (go_at_call 39; with_reducible refine Calls.below_of _ (QXI.out _)) | (go_at_call 40; with_reducible refine Calls.below_of _ (HXS.out _)) | (go_at_call 39; with_reducible refine Calls.below_of _ (QZ.out _)) | (go_at_call 41; with_reducible refine Calls.below_of _ (QYI.out _)) | (go_at_call 18; with_reducible refine Calls.below_of _ (QYS.out _)) | (go_at_call 42; with_reducible refine Calls.below_of _ (QS.out _)) | (go_at_call 43; with_reducible refine Calls.below_of _ (QN.out _))))
    refine wpQuiet_nil ?_
    intro _ hw'; obtain ⟨⟨wy, hbz2⟩, hw''⟩ := hw'; subst hw''
    clear cx0 cx1 cx2 cx3 cx4 cx5 cy0 cy1 cy2 cy3 cy4 cy5
    go_wp2_with fail
    go_ret
    exact ⟨rfl, HB.out.trans (hbz2.mono HB.out.size)⟩

end Go.Proofs.YtkjjiinccljhjaaGreatDoor
namespace Go.Proofs.YtkjjiinccljhjaaGreatDoor
open Go.ChangeShapes Go.WideShapes Go.ChangeAt Go.RowKit

theorem digests_all (a : Option Addr) (len cap : Nat) (zs : List Int) (w : World) (hm : Max0 w) (htab : Lib.TabIs Tryz.prog w "internal/strconv.uint64pow10" .u64 Lib.pow10Tab) (h : IsRow .u8 w a len cap zs) :
    Calls Tryz.prog 6 #[.slice a len cap] w fun e w' => e = .returned (.bool true) ∧ Below w.heap.size w w' := by
  by_cases hb : (1048576 : Int) < (len : Int)
  · go_enter Tryz.func6, Tryz.ntmps6
    go_wp2_with fail
    refine (big_yes a len cap _ hb).mono ?_
    rintro e w1 ⟨rfl, rfl⟩
    go_wp2
    go_ret
    exact ⟨rfl, Below.refl _ _⟩
  · exact digests_walk a len cap w hm htab (code_of_row h (by omega)) hb

end Go.Proofs.YtkjjiinccljhjaaGreatDoor
namespace Go.Proofs.YtkjjiinccljhjaaGreatDoor
open Go.ChangeShapes Go.WideShapes Go.ChangeAt Go.RowKit

theorem gPow : Tryz.prog.globalNamed "internal/strconv.uint64pow10" = some 1 := by kernel_rfl
theorem tPow : (Tryz.prog.globals[1]?).map (·.type) = some 276 := by kernel_rfl
theorem powData {H : Type} : (Rows.laid_internal_strconv_uint64pow10 : DataW H) = Lib.tabData .u64 Lib.pow10Tab := by rfl
theorem powTab {rest : List (String × DataW Unit)} {W : World} (h : laidMet Tryz.prog (("internal/strconv.uint64pow10", Rows.laid_internal_strconv_uint64pow10) :: rest) W) : Lib.TabIs Tryz.prog W "internal/strconv.uint64pow10" .u64 Lib.pow10Tab := by
  rw [powData] at h
  exact Lib.tabIs_of_head gPow tPow Tryz.underlying276 Tryz.underlying263 (by kernel_rfl) (by kernel_rfl) h

def laid3 : List (String × DataW Unit) := [("math/bits.deBruijn32tab", Rows.laid_math_bits_deBruijn32tab), ("math/bits.deBruijn64tab", Rows.laid_math_bits_deBruijn64tab), ("internal/strconv.uint64pow10", Rows.laid_internal_strconv_uint64pow10)]
theorem plain3 {W : World} (h : laidMetH Tryz.prog laid3 W) : laidMet Tryz.prog laid3 W := by
  rw [MakeChecks.laidMetH_plain _ _ _ (by kernel_rfl)] at h; exact h
theorem tab_of_laid3 {W : World} (h : laidMetH Tryz.prog laid3 W) : Lib.TabIs Tryz.prog W "internal/strconv.uint64pow10" .u64 Lib.pow10Tab := powTab (plain3 h).tail.tail

end Go.Proofs.YtkjjiinccljhjaaGreatDoor
namespace Go.Proofs.YtkjjiinccljhjaaGreatDoor
open Go.ChangeShapes Go.WideShapes Go.ChangeAt Go.RowKit

def laid5 : List (String × DataW Unit) := [("math/bits.deBruijn32tab", Rows.laid_math_bits_deBruijn32tab), ("math/bits.deBruijn64tab", Rows.laid_math_bits_deBruijn64tab), ("internal/strconv.uint64pow10", Rows.laid_internal_strconv_uint64pow10), ("unicode/utf8.acceptRanges", Rows.laid_unicode_utf8_acceptRanges), ("unicode/utf8.first", Rows.laid_unicode_utf8_first)]
theorem plain5 {W : World} (h : laidMetH Tryz.prog laid5 W) : laidMet Tryz.prog laid5 W := by
  rw [MakeChecks.laidMetH_plain _ _ _ (by kernel_rfl)] at h; exact h
theorem tab_of_laid5 {W : World} (h : laidMetH Tryz.prog laid5 W) : Lib.TabIs Tryz.prog W "internal/strconv.uint64pow10" .u64 Lib.pow10Tab := powTab (plain5 h).tail.tail

end Go.Proofs.YtkjjiinccljhjaaGreatDoor
namespace Go.Proofs.YtkjjiinccljhjaaGreatDoor
theorem handed_both {H : Type} {enc : TypeId × Value → H} {a : Assume} {C : Checked} {os : Os} {f : FuncId} {fn : Func} {s : ChangeSpec} {conds : List PathCond} {apart fresh handsOn again : Bool} {X : World → Array Value → Prop}
    (keepX : ∀ (u v : World) (xs : Array Value), u.heap = v.heap → X u xs → X v xs) (hown : ownKnob C.prog.godebug = none) (hst : os.Started) (hni : C.prog.inits.idxOf? f = none) (hf : C.prog.funcs[f]? = some fn)
    (some_fits : ∃ (w : World) (tape : Tape) (i : Input), w.os = os ∧ (w.forCall tape i).Shaped C.prog ∧ i.vars = [] ∧ Input.okWide C.prog (w.forCall tape i) .any w.heap.size f i ∧
      ((s.pre enc C.prog fn conds apart (w.forCall tape i).memory i.args ∧ X (w.forCall tape i).memory i.args) ∧ sizedMet enc C.prog fn (OpenSpec.ofChange s) apart (w.forCall tape i).memory i.args) ∧ a.holds C.prog (lone (Frame.enter C.prog f i.args .normal) [] (w.forCall tape i)))
    (walk : ∀ (W : World) (base : Nat) (args : Array Value) (ds gs : List (DataW H)) (before : List MemPlace),
      (∀ (j : Nat) t v, fn.params[j]? = some t → args[j]? = some v → Value.okWide C.prog W .any base t v) →
      DataW.Whole enc C.prog fn.params.toList s.vars apart W args.toList ds gs before → X W args → W.ShapedOpen C.prog →
      Calls C.prog f args W fun e W' => ∃ v, e = .returned v ∧ s.post enc C.prog fn apart fresh handsOn again W args v W') :
    ReturnsInHanded a C os f .any (fun w args => (s.pre enc C.prog fn conds apart w args ∧ X w args) ∧ sizedMet enc C.prog fn (OpenSpec.ofChange s) apart w args) (s.post enc C.prog fn apart fresh handsOn again) := by
  refine returnsInHanded_of_calls hown hst hni some_fits fun w tape i _ shape _ fits met _ => ?_
  obtain ⟨_, _, _, g, hg, _, _, _, _, each⟩ := fits
  obtain rfl : g = fn := Option.some.inj (hg.symm.trans hf)
  obtain ⟨⟨⟨ds, gs, before, whole, _⟩, x0⟩, _⟩ := met
  refine (walk (w.forCall tape i) w.heap.size i.args ds gs before each (DataW.Whole.of_heap (w' := w.forCall tape i) (by rfl) whole) (keepX _ _ _ (by rfl) x0) shape).mono ?_
  rintro e W' ⟨v, rfl, hp⟩
  exact ChangeSpec.post_blind hp

end Go.Proofs.YtkjjiinccljhjaaGreatDoor

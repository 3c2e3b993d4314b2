/- Helper contracts: IsResponse of the program and of the model answer alike. Asked: the policy's text is no longer than 2^20 bytes; for the program: the library's MaxLen holds a number. -/
import Derived.Test.YtgcdfkpidcdicaaDoorRsp
import Derived.Test.YtgcdfkpidcdicaaDoorPrsI
import Derived.Test.YtgcdfkpidcdicaaDoorPrsM
namespace Go.Proofs.YtgcdfkpidcdicaaDoor
open Go.ChangeShapes Go.WideShapes Go.ChangeAt Go.RowKit

def isRs (st kd : Int) (bo : ByteArray) (ag : Int) (po : ByteArray) : Bool := inB st 100 599 && inB kd 1 5 && decide (bo.size ≤ 400) && inB ag 0 1000 && (prsP po).2

set_option maxRecDepth 100000 in
set_option maxHeartbeats 2000000 in
theorem isRs_spec (st kd : Int) (bo : ByteArray) (ag : Int) (sh : Bool) (po : ByteArray) (hz : po.size ≤ 1048576) (w : World) :
    Calls Tryd.prog 24 #[.agg #[.int .i64 st, .int .i64 kd, .string bo, .int .i64 ag, .bool sh, .string po]] w fun e w' => e = .returned (.bool (isRs st kd bo ag po)) ∧ Below w.heap.size w w' := by
  obtain ⟨W, hW⟩ : ∃ W, w.alloc (.cells #[.int .i64 st, .int .i64 kd, .string bo, .int .i64 ag, .bool sh, .string po] 45) = W := ⟨_, rfl⟩
  have HB := Lib.hid (show Below w.heap.size w W by rw [← hW]; exact bl_aw (Below.refl _ _) _)
  have q0 : W.cell? ⟨w.heap.size, 0, none⟩ = some (.int .i64 st) := by rw [← hW]; simp
  have q1 : W.cell? ⟨w.heap.size, 1, none⟩ = some (.int .i64 kd) := by rw [← hW]; simp
  have q2 : W.cell? ⟨w.heap.size, 2, none⟩ = some (.string bo) := by rw [← hW]; simp
  have q3 : W.cell? ⟨w.heap.size, 3, none⟩ = some (.int .i64 ag) := by rw [← hW]; simp
  have q4 : W.cell? ⟨w.heap.size, 4, none⟩ = some (.bool sh) := by rw [← hW]; simp
  have q5 : W.cell? ⟨w.heap.size, 5, none⟩ = some (.string po) := by rw [← hW]; simp
  have HW := Lib.hid hW; clear hW
  obtain ⟨⟨q, ok⟩, hq⟩ : ∃ r, prsP po = r := ⟨_, rfl⟩
  have HP := Lib.hid (hq ▸ prs_spec po hz W)
  have HV := Lib.hid (show isRs st kd bo ag po = (inB st 100 599 && inB kd 1 5 && decide (bo.size ≤ 400) && inB ag 0 1000 && ok) by unfold isRs; rw [hq])
  clear hq hz
  have HI1 := Lib.hid (fun X => lin_any st 100 599 X); have HI2 := Lib.hid (fun X => lin_any kd 1 5 X); have HI3 := Lib.hid (fun X => lin_any ag 0 1000 X)
  cases e1 : inB st 100 599 with
  | false =>
    rw [e1] at HI1 HV; clear e1
    go_enter Tryd.func24, Tryd.ntmps24
    go_wp2_with fail
    rw [HW.out]
    refine HP.out.mono ?_
    rintro e w1 ⟨a1, n1, c1, a2, n2, c2, a3, n3, c3, rfl, -, hb⟩
    replace q0 := (hb.cell (show (⟨w.heap.size, 0, none⟩ : Addr).block < _ from World.block_lt_of_cell? _ _ q0)).trans q0
    replace q1 := (hb.cell (show (⟨w.heap.size, 1, none⟩ : Addr).block < _ from World.block_lt_of_cell? _ _ q1)).trans q1
    replace q2 := (hb.cell (show (⟨w.heap.size, 2, none⟩ : Addr).block < _ from World.block_lt_of_cell? _ _ q2)).trans q2
    replace q3 := (hb.cell (show (⟨w.heap.size, 3, none⟩ : Addr).block < _ from World.block_lt_of_cell? _ _ q3)).trans q3
    replace q4 := (hb.cell (show (⟨w.heap.size, 4, none⟩ : Addr).block < _ from World.block_lt_of_cell? _ _ q4)).trans q4
    replace q5 := (hb.cell (show (⟨w.heap.size, 5, none⟩ : Addr).block < _ from World.block_lt_of_cell? _ _ q5)).trans q5
    replace HB := Lib.hid (HB.out.trans (hb.mono HB.out.size)); clear hb
    go_upto_region 2 with (fail)
    obtain ⟨w2, hw2⟩ : ∃ x, w1.alloc (.cells #[.bool q.set, .slice a1 n1 c1, .slice a2 n2 c2, .slice a3 n3 c3, .string q.non] 26) = x := ⟨_, rfl⟩
    rw [hw2]
    have hb2 : Below w1.heap.size w1 w2 := by rw [← hw2]; exact bl_aw (Below.refl _ _) _
    replace q0 := (hb2.cell (show (⟨w.heap.size, 0, none⟩ : Addr).block < _ from World.block_lt_of_cell? _ _ q0)).trans q0
    replace q1 := (hb2.cell (show (⟨w.heap.size, 1, none⟩ : Addr).block < _ from World.block_lt_of_cell? _ _ q1)).trans q1
    replace q2 := (hb2.cell (show (⟨w.heap.size, 2, none⟩ : Addr).block < _ from World.block_lt_of_cell? _ _ q2)).trans q2
    replace q3 := (hb2.cell (show (⟨w.heap.size, 3, none⟩ : Addr).block < _ from World.block_lt_of_cell? _ _ q3)).trans q3
    replace q4 := (hb2.cell (show (⟨w.heap.size, 4, none⟩ : Addr).block < _ from World.block_lt_of_cell? _ _ q4)).trans q4
    replace q5 := (hb2.cell (show (⟨w.heap.size, 5, none⟩ : Addr).block < _ from World.block_lt_of_cell? _ _ q5)).trans q5
    replace HB := Lib.hid (HB.out.trans (hb2.mono HB.out.size)); clear hb2 hw2
    go_wp2_with fail
    refine (HI1.out _).mono ?_
    rintro e wz ⟨rfl, rfl⟩
    go_wp2_with fail
    go_ret
    exact ⟨by rw [HV.out]; rfl, HB.out⟩
  | true =>
    rw [e1] at HI1 HV; clear e1
    cases e2 : inB kd 1 5 with
    | false =>
      rw [e2] at HI2 HV; clear e2
      go_enter Tryd.func24, Tryd.ntmps24
      go_wp2_with fail
      rw [HW.out]
      refine HP.out.mono ?_
      rintro e w1 ⟨a1, n1, c1, a2, n2, c2, a3, n3, c3, rfl, -, hb⟩
      replace q0 := (hb.cell (show (⟨w.heap.size, 0, none⟩ : Addr).block < _ from World.block_lt_of_cell? _ _ q0)).trans q0
      replace q1 := (hb.cell (show (⟨w.heap.size, 1, none⟩ : Addr).block < _ from World.block_lt_of_cell? _ _ q1)).trans q1
      replace q2 := (hb.cell (show (⟨w.heap.size, 2, none⟩ : Addr).block < _ from World.block_lt_of_cell? _ _ q2)).trans q2
      replace q3 := (hb.cell (show (⟨w.heap.size, 3, none⟩ : Addr).block < _ from World.block_lt_of_cell? _ _ q3)).trans q3
      replace q4 := (hb.cell (show (⟨w.heap.size, 4, none⟩ : Addr).block < _ from World.block_lt_of_cell? _ _ q4)).trans q4
      replace q5 := (hb.cell (show (⟨w.heap.size, 5, none⟩ : Addr).block < _ from World.block_lt_of_cell? _ _ q5)).trans q5
      replace HB := Lib.hid (HB.out.trans (hb.mono HB.out.size)); clear hb
      go_upto_region 2 with (fail)
      obtain ⟨w2, hw2⟩ : ∃ x, w1.alloc (.cells #[.bool q.set, .slice a1 n1 c1, .slice a2 n2 c2, .slice a3 n3 c3, .string q.non] 26) = x := ⟨_, rfl⟩
      rw [hw2]
      have hb2 : Below w1.heap.size w1 w2 := by rw [← hw2]; exact bl_aw (Below.refl _ _) _
      replace q0 := (hb2.cell (show (⟨w.heap.size, 0, none⟩ : Addr).block < _ from World.block_lt_of_cell? _ _ q0)).trans q0
      replace q1 := (hb2.cell (show (⟨w.heap.size, 1, none⟩ : Addr).block < _ from World.block_lt_of_cell? _ _ q1)).trans q1
      replace q2 := (hb2.cell (show (⟨w.heap.size, 2, none⟩ : Addr).block < _ from World.block_lt_of_cell? _ _ q2)).trans q2
      replace q3 := (hb2.cell (show (⟨w.heap.size, 3, none⟩ : Addr).block < _ from World.block_lt_of_cell? _ _ q3)).trans q3
      replace q4 := (hb2.cell (show (⟨w.heap.size, 4, none⟩ : Addr).block < _ from World.block_lt_of_cell? _ _ q4)).trans q4
      replace q5 := (hb2.cell (show (⟨w.heap.size, 5, none⟩ : Addr).block < _ from World.block_lt_of_cell? _ _ q5)).trans q5
      replace HB := Lib.hid (HB.out.trans (hb2.mono HB.out.size)); clear hb2 hw2
      go_wp2_with fail
      refine (HI1.out _).mono ?_
      rintro e wz ⟨rfl, rfl⟩
      go_wp2_with fail
      refine (HI2.out _).mono ?_
      rintro e wz ⟨rfl, rfl⟩
      go_wp2_with fail
      go_ret
      exact ⟨by rw [HV.out]; rfl, HB.out⟩
    | true =>
      rw [e2] at HI2 HV; clear e2
      by_cases h4 : bo.size ≤ 400
      · have d1 : decide ((400 : Int) < (bo.size : Int)) = false := decide_eq_false (by omega); have d2 : decide ((bo.size : Int) ≤ 400) = true := decide_eq_true (by omega); have d3 : ¬ (400 : Int) < (bo.size : Int) := (by omega); have d4 : (bo.size : Int) ≤ 400 := (by omega)
        rw [decide_eq_true h4] at HV; clear h4
        cases e3 : inB ag 0 1000 with
        | false =>
          rw [e3] at HI3 HV; clear e3
          go_enter Tryd.func24, Tryd.ntmps24
          go_wp2_with fail
          rw [HW.out]
          refine HP.out.mono ?_
          rintro e w1 ⟨a1, n1, c1, a2, n2, c2, a3, n3, c3, rfl, -, hb⟩
          replace q0 := (hb.cell (show (⟨w.heap.size, 0, none⟩ : Addr).block < _ from World.block_lt_of_cell? _ _ q0)).trans q0
          replace q1 := (hb.cell (show (⟨w.heap.size, 1, none⟩ : Addr).block < _ from World.block_lt_of_cell? _ _ q1)).trans q1
          replace q2 := (hb.cell (show (⟨w.heap.size, 2, none⟩ : Addr).block < _ from World.block_lt_of_cell? _ _ q2)).trans q2
          replace q3 := (hb.cell (show (⟨w.heap.size, 3, none⟩ : Addr).block < _ from World.block_lt_of_cell? _ _ q3)).trans q3
          replace q4 := (hb.cell (show (⟨w.heap.size, 4, none⟩ : Addr).block < _ from World.block_lt_of_cell? _ _ q4)).trans q4
          replace q5 := (hb.cell (show (⟨w.heap.size, 5, none⟩ : Addr).block < _ from World.block_lt_of_cell? _ _ q5)).trans q5
          replace HB := Lib.hid (HB.out.trans (hb.mono HB.out.size)); clear hb
          go_upto_region 2 with (fail)
          obtain ⟨w2, hw2⟩ : ∃ x, w1.alloc (.cells #[.bool q.set, .slice a1 n1 c1, .slice a2 n2 c2, .slice a3 n3 c3, .string q.non] 26) = x := ⟨_, rfl⟩
          rw [hw2]
          have hb2 : Below w1.heap.size w1 w2 := by rw [← hw2]; exact bl_aw (Below.refl _ _) _
          replace q0 := (hb2.cell (show (⟨w.heap.size, 0, none⟩ : Addr).block < _ from World.block_lt_of_cell? _ _ q0)).trans q0
          replace q1 := (hb2.cell (show (⟨w.heap.size, 1, none⟩ : Addr).block < _ from World.block_lt_of_cell? _ _ q1)).trans q1
          replace q2 := (hb2.cell (show (⟨w.heap.size, 2, none⟩ : Addr).block < _ from World.block_lt_of_cell? _ _ q2)).trans q2
          replace q3 := (hb2.cell (show (⟨w.heap.size, 3, none⟩ : Addr).block < _ from World.block_lt_of_cell? _ _ q3)).trans q3
          replace q4 := (hb2.cell (show (⟨w.heap.size, 4, none⟩ : Addr).block < _ from World.block_lt_of_cell? _ _ q4)).trans q4
          replace q5 := (hb2.cell (show (⟨w.heap.size, 5, none⟩ : Addr).block < _ from World.block_lt_of_cell? _ _ q5)).trans q5
          replace HB := Lib.hid (HB.out.trans (hb2.mono HB.out.size)); clear hb2 hw2
          go_wp2_with fail
          refine (HI1.out _).mono ?_
          rintro e wz ⟨rfl, rfl⟩
          go_wp2_with fail
          refine (HI2.out _).mono ?_
          rintro e wz ⟨rfl, rfl⟩
          go_wp2_with fail
          refine (HI3.out _).mono ?_
          rintro e wz ⟨rfl, rfl⟩
          go_wp2_with fail
          go_ret
          exact ⟨by rw [HV.out]; rfl, HB.out⟩
        | true =>
          rw [e3] at HI3 HV; clear e3
          go_enter Tryd.func24, Tryd.ntmps24
          go_wp2_with fail
          rw [HW.out]
          refine HP.out.mono ?_
          rintro e w1 ⟨a1, n1, c1, a2, n2, c2, a3, n3, c3, rfl, -, hb⟩
          replace q0 := (hb.cell (show (⟨w.heap.size, 0, none⟩ : Addr).block < _ from World.block_lt_of_cell? _ _ q0)).trans q0
          replace q1 := (hb.cell (show (⟨w.heap.size, 1, none⟩ : Addr).block < _ from World.block_lt_of_cell? _ _ q1)).trans q1
          replace q2 := (hb.cell (show (⟨w.heap.size, 2, none⟩ : Addr).block < _ from World.block_lt_of_cell? _ _ q2)).trans q2
          replace q3 := (hb.cell (show (⟨w.heap.size, 3, none⟩ : Addr).block < _ from World.block_lt_of_cell? _ _ q3)).trans q3
          replace q4 := (hb.cell (show (⟨w.heap.size, 4, none⟩ : Addr).block < _ from World.block_lt_of_cell? _ _ q4)).trans q4
          replace q5 := (hb.cell (show (⟨w.heap.size, 5, none⟩ : Addr).block < _ from World.block_lt_of_cell? _ _ q5)).trans q5
          replace HB := Lib.hid (HB.out.trans (hb.mono HB.out.size)); clear hb
          go_upto_region 2 with (fail)
          obtain ⟨w2, hw2⟩ : ∃ x, w1.alloc (.cells #[.bool q.set, .slice a1 n1 c1, .slice a2 n2 c2, .slice a3 n3 c3, .string q.non] 26) = x := ⟨_, rfl⟩
          rw [hw2]
          have hb2 : Below w1.heap.size w1 w2 := by rw [← hw2]; exact bl_aw (Below.refl _ _) _
          replace q0 := (hb2.cell (show (⟨w.heap.size, 0, none⟩ : Addr).block < _ from World.block_lt_of_cell? _ _ q0)).trans q0
          replace q1 := (hb2.cell (show (⟨w.heap.size, 1, none⟩ : Addr).block < _ from World.block_lt_of_cell? _ _ q1)).trans q1
          replace q2 := (hb2.cell (show (⟨w.heap.size, 2, none⟩ : Addr).block < _ from World.block_lt_of_cell? _ _ q2)).trans q2
          replace q3 := (hb2.cell (show (⟨w.heap.size, 3, none⟩ : Addr).block < _ from World.block_lt_of_cell? _ _ q3)).trans q3
          replace q4 := (hb2.cell (show (⟨w.heap.size, 4, none⟩ : Addr).block < _ from World.block_lt_of_cell? _ _ q4)).trans q4
          replace q5 := (hb2.cell (show (⟨w.heap.size, 5, none⟩ : Addr).block < _ from World.block_lt_of_cell? _ _ q5)).trans q5
          replace HB := Lib.hid (HB.out.trans (hb2.mono HB.out.size)); clear hb2 hw2
          go_wp2_with fail
          refine (HI1.out _).mono ?_
          rintro e wz ⟨rfl, rfl⟩
          go_wp2_with fail
          refine (HI2.out _).mono ?_
          rintro e wz ⟨rfl, rfl⟩
          go_wp2_with fail
          refine (HI3.out _).mono ?_
          rintro e wz ⟨rfl, rfl⟩
          go_wp2_with fail
          go_ret
          exact ⟨by rw [HV.out]; rfl, HB.out⟩
      · have d1 : decide ((400 : Int) < (bo.size : Int)) = true := decide_eq_true (by omega); have d2 : decide ((bo.size : Int) ≤ 400) = false := decide_eq_false (by omega); have d3 : (400 : Int) < (bo.size : Int) := (by omega); have d4 : ¬ (bo.size : Int) ≤ 400 := (by omega)
        rw [decide_eq_false h4] at HV; clear h4
        go_enter Tryd.func24, Tryd.ntmps24
        go_wp2_with fail
        rw [HW.out]
        refine HP.out.mono ?_
        rintro e w1 ⟨a1, n1, c1, a2, n2, c2, a3, n3, c3, rfl, -, hb⟩
        replace q0 := (hb.cell (show (⟨w.heap.size, 0, none⟩ : Addr).block < _ from World.block_lt_of_cell? _ _ q0)).trans q0
        replace q1 := (hb.cell (show (⟨w.heap.size, 1, none⟩ : Addr).block < _ from World.block_lt_of_cell? _ _ q1)).trans q1
        replace q2 := (hb.cell (show (⟨w.heap.size, 2, none⟩ : Addr).block < _ from World.block_lt_of_cell? _ _ q2)).trans q2
        replace q3 := (hb.cell (show (⟨w.heap.size, 3, none⟩ : Addr).block < _ from World.block_lt_of_cell? _ _ q3)).trans q3
        replace q4 := (hb.cell (show (⟨w.heap.size, 4, none⟩ : Addr).block < _ from World.block_lt_of_cell? _ _ q4)).trans q4
        replace q5 := (hb.cell (show (⟨w.heap.size, 5, none⟩ : Addr).block < _ from World.block_lt_of_cell? _ _ q5)).trans q5
        replace HB := Lib.hid (HB.out.trans (hb.mono HB.out.size)); clear hb
        go_upto_region 2 with (fail)
        obtain ⟨w2, hw2⟩ : ∃ x, w1.alloc (.cells #[.bool q.set, .slice a1 n1 c1, .slice a2 n2 c2, .slice a3 n3 c3, .string q.non] 26) = x := ⟨_, rfl⟩
        rw [hw2]
        have hb2 : Below w1.heap.size w1 w2 := by rw [← hw2]; exact bl_aw (Below.refl _ _) _
        replace q0 := (hb2.cell (show (⟨w.heap.size, 0, none⟩ : Addr).block < _ from World.block_lt_of_cell? _ _ q0)).trans q0
        replace q1 := (hb2.cell (show (⟨w.heap.size, 1, none⟩ : Addr).block < _ from World.block_lt_of_cell? _ _ q1)).trans q1
        replace q2 := (hb2.cell (show (⟨w.heap.size, 2, none⟩ : Addr).block < _ from World.block_lt_of_cell? _ _ q2)).trans q2
        replace q3 := (hb2.cell (show (⟨w.heap.size, 3, none⟩ : Addr).block < _ from World.block_lt_of_cell? _ _ q3)).trans q3
        replace q4 := (hb2.cell (show (⟨w.heap.size, 4, none⟩ : Addr).block < _ from World.block_lt_of_cell? _ _ q4)).trans q4
        replace q5 := (hb2.cell (show (⟨w.heap.size, 5, none⟩ : Addr).block < _ from World.block_lt_of_cell? _ _ q5)).trans q5
        replace HB := Lib.hid (HB.out.trans (hb2.mono HB.out.size)); clear hb2 hw2
        go_wp2_with fail
        refine (HI1.out _).mono ?_
        rintro e wz ⟨rfl, rfl⟩
        go_wp2_with fail
        refine (HI2.out _).mono ?_
        rintro e wz ⟨rfl, rfl⟩
        go_wp2_with fail
        go_ret
        exact ⟨by rw [HV.out]; rfl, HB.out⟩

set_option maxRecDepth 100000 in
set_option maxHeartbeats 2000000 in
theorem isRs_impl (st kd : Int) (bo : ByteArray) (ag : Int) (sh : Bool) (po : ByteArray) (hz : po.size ≤ 1048576) (w : World) (hm : Max0 w) :
    Calls Tryd.prog 26 #[.agg #[.int .i64 st, .int .i64 kd, .string bo, .int .i64 ag, .bool sh, .string po]] w fun e w' => e = .returned (.bool (isRs st kd bo ag po)) ∧ Below w.heap.size w w' := by
  obtain ⟨W, hW⟩ : ∃ W, w.alloc (.cells #[.int .i64 st, .int .i64 kd, .string bo, .int .i64 ag, .bool sh, .string po] 45) = W := ⟨_, rfl⟩
  have HB := Lib.hid (show Below w.heap.size w W by rw [← hW]; exact bl_aw (Below.refl _ _) _)
  have q0 : W.cell? ⟨w.heap.size, 0, none⟩ = some (.int .i64 st) := by rw [← hW]; simp
  have q1 : W.cell? ⟨w.heap.size, 1, none⟩ = some (.int .i64 kd) := by rw [← hW]; simp
  have q2 : W.cell? ⟨w.heap.size, 2, none⟩ = some (.string bo) := by rw [← hW]; simp
  have q3 : W.cell? ⟨w.heap.size, 3, none⟩ = some (.int .i64 ag) := by rw [← hW]; simp
  have q4 : W.cell? ⟨w.heap.size, 4, none⟩ = some (.bool sh) := by rw [← hW]; simp
  have q5 : W.cell? ⟨w.heap.size, 5, none⟩ = some (.string po) := by rw [← hW]; simp
  have HW := Lib.hid hW; clear hW
  obtain ⟨⟨q, ok⟩, hq⟩ : ∃ r, prsP po = r := ⟨_, rfl⟩
  have HP := Lib.hid (hq ▸ prs_impl po hz W (hm.on HB.out))
  have HV := Lib.hid (show isRs st kd bo ag po = (inB st 100 599 && inB kd 1 5 && decide (bo.size ≤ 400) && inB ag 0 1000 && ok) by unfold isRs; rw [hq])
  clear hq hz hm
  have HI1 := Lib.hid (fun X => rin_any st 100 599 X); have HI2 := Lib.hid (fun X => rin_any kd 1 5 X); have HI3 := Lib.hid (fun X => rin_any ag 0 1000 X)
  cases e1 : inB st 100 599 with
  | false =>
    rw [e1] at HI1 HV; clear e1
    go_enter Tryd.func26, Tryd.ntmps26
    go_wp2_with fail
    rw [HW.out]
    refine (HI1.out _).mono ?_
    rintro e wz ⟨rfl, rfl⟩
    go_wp2_with fail
    go_ret
    exact ⟨by rw [HV.out]; rfl, HB.out⟩
  | true =>
    rw [e1] at HI1 HV; clear e1
    cases e2 : inB kd 1 5 with
    | false =>
      rw [e2] at HI2 HV; clear e2
      go_enter Tryd.func26, Tryd.ntmps26
      go_wp2_with fail
      rw [HW.out]
      refine (HI1.out _).mono ?_
      rintro e wz ⟨rfl, rfl⟩
      go_wp2_with fail
      refine (HI2.out _).mono ?_
      rintro e wz ⟨rfl, rfl⟩
      go_wp2_with fail
      go_ret
      exact ⟨by rw [HV.out]; rfl, HB.out⟩
    | true =>
      rw [e2] at HI2 HV; clear e2
      by_cases h4 : bo.size ≤ 400
      · have d1 : decide ((400 : Int) < (bo.size : Int)) = false := decide_eq_false (by omega); have d2 : decide ((bo.size : Int) ≤ 400) = true := decide_eq_true (by omega); have d3 : ¬ (400 : Int) < (bo.size : Int) := (by omega); have d4 : (bo.size : Int) ≤ 400 := (by omega)
        rw [decide_eq_true h4] at HV; clear h4
        cases e3 : inB ag 0 1000 with
        | false =>
          rw [e3] at HI3 HV; clear e3
          go_enter Tryd.func26, Tryd.ntmps26
          go_wp2_with fail
          rw [HW.out]
          refine (HI1.out _).mono ?_
          rintro e wz ⟨rfl, rfl⟩
          go_wp2_with fail
          refine (HI2.out _).mono ?_
          rintro e wz ⟨rfl, rfl⟩
          go_wp2_with fail
          refine (HI3.out _).mono ?_
          rintro e wz ⟨rfl, rfl⟩
          go_wp2_with fail
          go_ret
          exact ⟨by rw [HV.out]; rfl, HB.out⟩
        | true =>
          rw [e3] at HI3 HV; clear e3
          go_enter Tryd.func26, Tryd.ntmps26
          go_wp2_with fail
          rw [HW.out]
          refine (HI1.out _).mono ?_
          rintro e wz ⟨rfl, rfl⟩
          go_wp2_with fail
          refine (HI2.out _).mono ?_
          rintro e wz ⟨rfl, rfl⟩
          go_wp2_with fail
          refine (HI3.out _).mono ?_
          rintro e wz ⟨rfl, rfl⟩
          go_wp2_with fail
          refine HP.out.mono ?_
          rintro e w1 ⟨a1, n1, c1, a2, n2, c2, a3, n3, c3, rfl, -, hb⟩
          replace HB := Lib.hid (HB.out.trans (hb.mono HB.out.size)); clear hb
          go_wp2_with fail
          go_ret
          exact ⟨by rw [HV.out]; rfl, HB.out.alloc HB.out.size _⟩
      · have d1 : decide ((400 : Int) < (bo.size : Int)) = true := decide_eq_true (by omega); have d2 : decide ((bo.size : Int) ≤ 400) = false := decide_eq_false (by omega); have d3 : (400 : Int) < (bo.size : Int) := (by omega); have d4 : ¬ (bo.size : Int) ≤ 400 := (by omega)
        rw [decide_eq_false h4] at HV; clear h4
        go_enter Tryd.func26, Tryd.ntmps26
        go_wp2_with fail
        rw [HW.out]
        refine (HI1.out _).mono ?_
        rintro e wz ⟨rfl, rfl⟩
        go_wp2_with fail
        refine (HI2.out _).mono ?_
        rintro e wz ⟨rfl, rfl⟩
        go_wp2_with fail
        go_ret
        exact ⟨by rw [HV.out]; rfl, HB.out⟩

end Go.Proofs.YtgcdfkpidcdicaaDoor

/- Helper contracts: CheckResponse, UsableBody of the program and of the model answer alike. Asked: strings are shorter than 2^63 bytes, the response's no longer than 2^20; the policy's slices read as named; for the program: the library's MaxLen and table of powers of ten hold what their initialisers lay. -/
import Derived.Test.YtkjjiinccljhjaaGreatDoorMe14
import Derived.Test.YtkjjiinccljhjaaGreatDoorMe17
import Derived.Test.YtkjjiinccljhjaaGreatDoorMe11
import Derived.Test.YtkjjiinccljhjaaGreatDoorMe7
namespace Go.Proofs.YtkjjiinccljhjaaGreatDoor

open Go.ChangeShapes Go.WideShapes Go.ChangeAt Go.RowKit

/-- needsSharing. -/
def shB (kd : Int) (h f g : ByteArray) : Bool := !decide (f = h) && (decide (kd = 5) || !decide (g.size = 0))
def dgV (bo g : ByteArray) : Int := if chB bo g = true then 1 else 6
/-- CheckResponse. -/
def rsV (q : Pol) (kd : Int) (h p f g : ByteArray) (st xk : Int) (bo : ByteArray) (ag : Int) (sh : Bool) (po : ByteArray) : Int := if rqV q kd h p f g = 1 then if isRs st xk bo ag po = true then if st = 200 then if fitB xk kd = true then if shB kd h f g = true then if sh = true then dgV bo g else 5 else dgV bo g else 4 else 3 else 3 else 2
theorem if_sh {c : Bool} {D : Int} : (if c = true then if true = true then D else 5 else D) = D := by cases c <;> rfl
theorem rqV_or (q : Pol) (kd : Int) (h p f g : ByteArray) : rqV q kd h p f g = 1 ∨ rqV q kd h p f g = 2 := by
  unfold rqV
  repeat' split
  all_goals simp
theorem rsV_rng (q : Pol) (kd : Int) (h p f g : ByteArray) (st xk : Int) (bo : ByteArray) (ag : Int) (sh : Bool) (po : ByteArray) : 1 ≤ rsV q kd h p f g st xk bo ag sh po ∧ rsV q kd h p f g st xk bo ag sh po ≤ 6 := by
  unfold rsV dgV
  repeat' split
  all_goals omega

set_option maxRecDepth 100000 in
set_option maxHeartbeats 2000000 in
theorem ns_impl (kd : Int) (h p f g : ByteArray) (w : World) :
    Calls Tryz.prog 139 #[.agg #[.int .i64 kd, .string h, .string p, .string f, .string g]] w fun e w' => e = .returned (.bool (shB kd h f g)) ∧ Grw w w' := by
  obtain ⟨W0, hW⟩ : ∃ W, (w.alloc (.cells #[.int .i64 kd, .string h, .string p, .string f, .string g] 30)) = W := ⟨_, rfl⟩
  have HB := Lib.hid (show Below w.heap.size w W0 by rw [← hW]; exact ((Below.refl w.heap.size w).alloc (by first | (simp; done) | (simp; omega)) _))
  have q_q0 : W0.cell? ⟨w.heap.size, 0, none⟩ = some (.int .i64 kd) := by rw [← hW]; simp
  have q_q1 : W0.cell? ⟨w.heap.size, 1, none⟩ = some (.string h) := by rw [← hW]; simp
  have q_q2 : W0.cell? ⟨w.heap.size, 2, none⟩ = some (.string p) := by rw [← hW]; simp
  have q_q3 : W0.cell? ⟨w.heap.size, 3, none⟩ = some (.string f) := by rw [← hW]; simp
  have q_q4 : W0.cell? ⟨w.heap.size, 4, none⟩ = some (.string g) := by rw [← hW]; simp
  have HW := Lib.hid hW; clear hW
  have HG := Lib.hid (show Grw w W0 by rw [← HW.out]; exact (Grw.refl w).alloc _)
  obtain ⟨D, hD⟩ : ∃ D, decide (g.size = 0) = D := ⟨_, rfl⟩
  have e4 := empQ_size g; rw [hD] at e4
  have HD := Lib.hid hD; clear hD
  by_cases e1 : f = h
  · have He1 := Lib.hid e1
    have x1 : (f.toList == h.toList) = true := beqL_yes e1
    clear e1
    go_enter Tryz.func139, Tryz.ntmps139
    go_wp2_with fail
    rw [HW.out]
    go_ret
    exact ⟨ret_b (by unfold shB; simp [He1.out]), HG.out⟩
  · have He1 := Lib.hid e1
    have x1 : (f.toList == h.toList) = false := beqL_no e1
    clear e1
    by_cases e2 : kd = 5
    · have He2 := Lib.hid e2
      have x2 : (kd == 5) = true := beq_iff_eq.2 e2
      clear e2
      go_enter Tryz.func139, Tryz.ntmps139
      go_wp2_with fail
      rw [HW.out]
      go_ret
      exact ⟨ret_b (by unfold shB; simp [He1.out, He2.out]), HG.out⟩
    · have He2 := Lib.hid e2
      have x2 : (kd == 5) = false := beq_eq_false_iff_ne.2 e2
      clear e2
      cases D with
      | true =>
        have He4 := Lib.hid (of_decide_eq_true HD.out)
        go_enter Tryz.func139, Tryz.ntmps139
        go_wp2_with fail
        rw [HW.out]
        go_ret
        exact ⟨ret_b (by unfold shB; simp [He1.out, He2.out, He4.out]), HG.out⟩
      | false =>
        have He4 := Lib.hid (of_decide_eq_false HD.out)
        go_enter Tryz.func139, Tryz.ntmps139
        go_wp2_with fail
        rw [HW.out]
        go_ret
        exact ⟨ret_b (by unfold shB; simp [He1.out, He2.out, He4.out]), HG.out⟩

set_option maxRecDepth 100000 in
set_option maxHeartbeats 2000000 in
theorem crs_spec (set : Bool) (scr sty img : List ByteArray) (non : ByteArray) (a1 : Option Addr) (n1 c1 : Nat) (a2 : Option Addr) (n2 c2 : Nat) (a3 : Option Addr) (n3 c3 : Nat) (kd : Int) (h p f g : ByteArray) (st xk : Int) (bo : ByteArray) (ag : Int) (sh : Bool) (po : ByteArray) (ok : RqOk h p f g) (hz : po.size ≤ 1048576) (hl : bo.size ≤ 1048576) (w : World) (hr : ReadP w.heap.size w (.slice a1 n1 c1) (.slice a2 n2 c2) (.slice a3 n3 c3) ⟨set, scr, sty, img, non⟩) :
    Calls Tryz.prog 14 #[.agg #[.bool set, .slice a1 n1 c1, .slice a2 n2 c2, .slice a3 n3 c3, .string non], .agg #[.int .i64 kd, .string h, .string p, .string f, .string g], .agg #[.int .i64 st, .int .i64 xk, .string bo, .int .i64 ag, .bool sh, .string po]] w fun e w' => e = .returned (.int .i64 (rsV (⟨set, scr, sty, img, non⟩ : Pol) kd h p f g st xk bo ag sh po)) ∧ Below w.heap.size w w' := by
  have HRp := Lib.hid hr; clear hr
  obtain ⟨W0, hW⟩ : ∃ W, (((w.alloc (.cells #[.bool set, .slice a1 n1 c1, .slice a2 n2 c2, .slice a3 n3 c3, .string non] 26)).alloc (.cells #[.int .i64 kd, .string h, .string p, .string f, .string g] 30)).alloc (.cells #[.int .i64 st, .int .i64 xk, .string bo, .int .i64 ag, .bool sh, .string po] 32)) = W := ⟨_, rfl⟩
  have HB := Lib.hid (show Below w.heap.size w W0 by rw [← hW]; exact ((((Below.refl w.heap.size w).alloc (by first | (simp; done) | (simp; omega)) _).alloc (by first | (simp; done) | (simp; omega)) _).alloc (by first | (simp; done) | (simp; omega)) _))
  have q_p0 : W0.cell? ⟨w.heap.size, 0, none⟩ = some (.bool set) := by rw [← hW]; exact box_cell (box3_0 _ _ _ _) (j := 0) rfl
  have q_p1 : W0.cell? ⟨w.heap.size, 1, none⟩ = some (.slice a1 n1 c1) := by rw [← hW]; exact box_cell (box3_0 _ _ _ _) (j := 1) rfl
  have q_p2 : W0.cell? ⟨w.heap.size, 2, none⟩ = some (.slice a2 n2 c2) := by rw [← hW]; exact box_cell (box3_0 _ _ _ _) (j := 2) rfl
  have q_p3 : W0.cell? ⟨w.heap.size, 3, none⟩ = some (.slice a3 n3 c3) := by rw [← hW]; exact box_cell (box3_0 _ _ _ _) (j := 3) rfl
  have q_p4 : W0.cell? ⟨w.heap.size, 4, none⟩ = some (.string non) := by rw [← hW]; exact box_cell (box3_0 _ _ _ _) (j := 4) rfl
  have q_q0 : W0.cell? ⟨w.heap.size + 1, 0, none⟩ = some (.int .i64 kd) := by rw [← hW]; exact box_cell (box3_1 _ _ _ _) (j := 0) rfl
  have q_q1 : W0.cell? ⟨w.heap.size + 1, 1, none⟩ = some (.string h) := by rw [← hW]; exact box_cell (box3_1 _ _ _ _) (j := 1) rfl
  have q_q2 : W0.cell? ⟨w.heap.size + 1, 2, none⟩ = some (.string p) := by rw [← hW]; exact box_cell (box3_1 _ _ _ _) (j := 2) rfl
  have q_q3 : W0.cell? ⟨w.heap.size + 1, 3, none⟩ = some (.string f) := by rw [← hW]; exact box_cell (box3_1 _ _ _ _) (j := 3) rfl
  have q_q4 : W0.cell? ⟨w.heap.size + 1, 4, none⟩ = some (.string g) := by rw [← hW]; exact box_cell (box3_1 _ _ _ _) (j := 4) rfl
  have q_x0 : W0.cell? ⟨w.heap.size + 1 + 1, 0, none⟩ = some (.int .i64 st) := by rw [← hW]; exact box_cell (box3_2 _ _ _ _) (j := 0) rfl
  have q_x1 : W0.cell? ⟨w.heap.size + 1 + 1, 1, none⟩ = some (.int .i64 xk) := by rw [← hW]; exact box_cell (box3_2 _ _ _ _) (j := 1) rfl
  have q_x2 : W0.cell? ⟨w.heap.size + 1 + 1, 2, none⟩ = some (.string bo) := by rw [← hW]; exact box_cell (box3_2 _ _ _ _) (j := 2) rfl
  have q_x3 : W0.cell? ⟨w.heap.size + 1 + 1, 3, none⟩ = some (.int .i64 ag) := by rw [← hW]; exact box_cell (box3_2 _ _ _ _) (j := 3) rfl
  have q_x4 : W0.cell? ⟨w.heap.size + 1 + 1, 4, none⟩ = some (.bool sh) := by rw [← hW]; exact box_cell (box3_2 _ _ _ _) (j := 4) rfl
  have q_x5 : W0.cell? ⟨w.heap.size + 1 + 1, 5, none⟩ = some (.string po) := by rw [← hW]; exact box_cell (box3_2 _ _ _ _) (j := 5) rfl
  replace HRp := Lib.hid (ReadP.up HRp.out HB.out)
  have HW := Lib.hid hW; clear hW
  have HQ := Lib.hid (fun X hx => chQ_spec set scr sty img non a1 n1 c1 a2 n2 c2 a3 n3 c3 kd h p f g ok X hx)
  have HF := Lib.hid (fun X => fits_spec st xk bo ag sh po kd X)
  clear ok
  go_enter Tryz.func14, Tryz.ntmps14
  go_wp2_with fail
  rw [HW.out]
  refine (HQ.out _ HRp.out).mono ?_
  rintro e w1 ⟨rfl, hb⟩
  have hbx := hb
  replace q_p0 := (hbx.cell (show (⟨w.heap.size, 0, none⟩ : Addr).block < _ from World.block_lt_of_cell? _ _ q_p0)).trans q_p0
  replace q_p1 := (hbx.cell (show (⟨w.heap.size, 1, none⟩ : Addr).block < _ from World.block_lt_of_cell? _ _ q_p1)).trans q_p1
  replace q_p2 := (hbx.cell (show (⟨w.heap.size, 2, none⟩ : Addr).block < _ from World.block_lt_of_cell? _ _ q_p2)).trans q_p2
  replace q_p3 := (hbx.cell (show (⟨w.heap.size, 3, none⟩ : Addr).block < _ from World.block_lt_of_cell? _ _ q_p3)).trans q_p3
  replace q_p4 := (hbx.cell (show (⟨w.heap.size, 4, none⟩ : Addr).block < _ from World.block_lt_of_cell? _ _ q_p4)).trans q_p4
  replace q_q0 := (hbx.cell (show (⟨w.heap.size + 1, 0, none⟩ : Addr).block < _ from World.block_lt_of_cell? _ _ q_q0)).trans q_q0
  replace q_q1 := (hbx.cell (show (⟨w.heap.size + 1, 1, none⟩ : Addr).block < _ from World.block_lt_of_cell? _ _ q_q1)).trans q_q1
  replace q_q2 := (hbx.cell (show (⟨w.heap.size + 1, 2, none⟩ : Addr).block < _ from World.block_lt_of_cell? _ _ q_q2)).trans q_q2
  replace q_q3 := (hbx.cell (show (⟨w.heap.size + 1, 3, none⟩ : Addr).block < _ from World.block_lt_of_cell? _ _ q_q3)).trans q_q3
  replace q_q4 := (hbx.cell (show (⟨w.heap.size + 1, 4, none⟩ : Addr).block < _ from World.block_lt_of_cell? _ _ q_q4)).trans q_q4
  replace q_x0 := (hbx.cell (show (⟨w.heap.size + 1 + 1, 0, none⟩ : Addr).block < _ from World.block_lt_of_cell? _ _ q_x0)).trans q_x0
  replace q_x1 := (hbx.cell (show (⟨w.heap.size + 1 + 1, 1, none⟩ : Addr).block < _ from World.block_lt_of_cell? _ _ q_x1)).trans q_x1
  replace q_x2 := (hbx.cell (show (⟨w.heap.size + 1 + 1, 2, none⟩ : Addr).block < _ from World.block_lt_of_cell? _ _ q_x2)).trans q_x2
  replace q_x3 := (hbx.cell (show (⟨w.heap.size + 1 + 1, 3, none⟩ : Addr).block < _ from World.block_lt_of_cell? _ _ q_x3)).trans q_x3
  replace q_x4 := (hbx.cell (show (⟨w.heap.size + 1 + 1, 4, none⟩ : Addr).block < _ from World.block_lt_of_cell? _ _ q_x4)).trans q_x4
  replace q_x5 := (hbx.cell (show (⟨w.heap.size + 1 + 1, 5, none⟩ : Addr).block < _ from World.block_lt_of_cell? _ _ q_x5)).trans q_x5
  replace HRp := Lib.hid (ReadP.up HRp.out hbx)
  replace HB := Lib.hid (HB.out.trans (hbx.mono HB.out.size)); clear hbx hb
  obtain e1 | e1 := rqV_or (⟨set, scr, sty, img, non⟩ : Pol) kd h p f g
  · rw [e1]; have He1 := Lib.hid e1; clear e1
    go_wp2_with fail
    refine (isRs_spec st xk bo ag sh po hz _).mono ?_
    rintro e w2 ⟨rfl, hb⟩
    have hbx := hb
    replace q_p0 := (hbx.cell (show (⟨w.heap.size, 0, none⟩ : Addr).block < _ from World.block_lt_of_cell? _ _ q_p0)).trans q_p0
    replace q_p1 := (hbx.cell (show (⟨w.heap.size, 1, none⟩ : Addr).block < _ from World.block_lt_of_cell? _ _ q_p1)).trans q_p1
    replace q_p2 := (hbx.cell (show (⟨w.heap.size, 2, none⟩ : Addr).block < _ from World.block_lt_of_cell? _ _ q_p2)).trans q_p2
    replace q_p3 := (hbx.cell (show (⟨w.heap.size, 3, none⟩ : Addr).block < _ from World.block_lt_of_cell? _ _ q_p3)).trans q_p3
    replace q_p4 := (hbx.cell (show (⟨w.heap.size, 4, none⟩ : Addr).block < _ from World.block_lt_of_cell? _ _ q_p4)).trans q_p4
    replace q_q0 := (hbx.cell (show (⟨w.heap.size + 1, 0, none⟩ : Addr).block < _ from World.block_lt_of_cell? _ _ q_q0)).trans q_q0
    replace q_q1 := (hbx.cell (show (⟨w.heap.size + 1, 1, none⟩ : Addr).block < _ from World.block_lt_of_cell? _ _ q_q1)).trans q_q1
    replace q_q2 := (hbx.cell (show (⟨w.heap.size + 1, 2, none⟩ : Addr).block < _ from World.block_lt_of_cell? _ _ q_q2)).trans q_q2
    replace q_q3 := (hbx.cell (show (⟨w.heap.size + 1, 3, none⟩ : Addr).block < _ from World.block_lt_of_cell? _ _ q_q3)).trans q_q3
    replace q_q4 := (hbx.cell (show (⟨w.heap.size + 1, 4, none⟩ : Addr).block < _ from World.block_lt_of_cell? _ _ q_q4)).trans q_q4
    replace q_x0 := (hbx.cell (show (⟨w.heap.size + 1 + 1, 0, none⟩ : Addr).block < _ from World.block_lt_of_cell? _ _ q_x0)).trans q_x0
    replace q_x1 := (hbx.cell (show (⟨w.heap.size + 1 + 1, 1, none⟩ : Addr).block < _ from World.block_lt_of_cell? _ _ q_x1)).trans q_x1
    replace q_x2 := (hbx.cell (show (⟨w.heap.size + 1 + 1, 2, none⟩ : Addr).block < _ from World.block_lt_of_cell? _ _ q_x2)).trans q_x2
    replace q_x3 := (hbx.cell (show (⟨w.heap.size + 1 + 1, 3, none⟩ : Addr).block < _ from World.block_lt_of_cell? _ _ q_x3)).trans q_x3
    replace q_x4 := (hbx.cell (show (⟨w.heap.size + 1 + 1, 4, none⟩ : Addr).block < _ from World.block_lt_of_cell? _ _ q_x4)).trans q_x4
    replace q_x5 := (hbx.cell (show (⟨w.heap.size + 1 + 1, 5, none⟩ : Addr).block < _ from World.block_lt_of_cell? _ _ q_x5)).trans q_x5
    replace HRp := Lib.hid (ReadP.up HRp.out hbx)
    replace HB := Lib.hid (HB.out.trans (hbx.mono HB.out.size)); clear hbx hb
    cases e2 : isRs st xk bo ag po with
    | false =>
      have He2 := Lib.hid e2; clear e2
      go_wp2_with fail
      go_ret
      exact ⟨ret_iq (by unfold rsV; rw [if_pos He1.out, if_neg (by rw [He2.out]; exact Bool.false_ne_true)]), HB.out⟩
    | true =>
      have He2 := Lib.hid e2; clear e2
      by_cases e3 : st = 200
      · have He3 := Lib.hid e3
        have x1 : (st == 200) = true := beq_iff_eq.2 e3
        have x2 : (st != 200) = false := by rw [bne, x1]; rfl
        clear e3
        go_wp2_with fail
        refine (HF.out _).mono ?_
        rintro e w3 ⟨rfl, hb⟩
        have hbx := hb.below
        replace q_p0 := (hbx.cell (show (⟨w.heap.size, 0, none⟩ : Addr).block < _ from World.block_lt_of_cell? _ _ q_p0)).trans q_p0
        replace q_p1 := (hbx.cell (show (⟨w.heap.size, 1, none⟩ : Addr).block < _ from World.block_lt_of_cell? _ _ q_p1)).trans q_p1
        replace q_p2 := (hbx.cell (show (⟨w.heap.size, 2, none⟩ : Addr).block < _ from World.block_lt_of_cell? _ _ q_p2)).trans q_p2
        replace q_p3 := (hbx.cell (show (⟨w.heap.size, 3, none⟩ : Addr).block < _ from World.block_lt_of_cell? _ _ q_p3)).trans q_p3
        replace q_p4 := (hbx.cell (show (⟨w.heap.size, 4, none⟩ : Addr).block < _ from World.block_lt_of_cell? _ _ q_p4)).trans q_p4
        replace q_q0 := (hbx.cell (show (⟨w.heap.size + 1, 0, none⟩ : Addr).block < _ from World.block_lt_of_cell? _ _ q_q0)).trans q_q0
        replace q_q1 := (hbx.cell (show (⟨w.heap.size + 1, 1, none⟩ : Addr).block < _ from World.block_lt_of_cell? _ _ q_q1)).trans q_q1
        replace q_q2 := (hbx.cell (show (⟨w.heap.size + 1, 2, none⟩ : Addr).block < _ from World.block_lt_of_cell? _ _ q_q2)).trans q_q2
        replace q_q3 := (hbx.cell (show (⟨w.heap.size + 1, 3, none⟩ : Addr).block < _ from World.block_lt_of_cell? _ _ q_q3)).trans q_q3
        replace q_q4 := (hbx.cell (show (⟨w.heap.size + 1, 4, none⟩ : Addr).block < _ from World.block_lt_of_cell? _ _ q_q4)).trans q_q4
        replace q_x0 := (hbx.cell (show (⟨w.heap.size + 1 + 1, 0, none⟩ : Addr).block < _ from World.block_lt_of_cell? _ _ q_x0)).trans q_x0
        replace q_x1 := (hbx.cell (show (⟨w.heap.size + 1 + 1, 1, none⟩ : Addr).block < _ from World.block_lt_of_cell? _ _ q_x1)).trans q_x1
        replace q_x2 := (hbx.cell (show (⟨w.heap.size + 1 + 1, 2, none⟩ : Addr).block < _ from World.block_lt_of_cell? _ _ q_x2)).trans q_x2
        replace q_x3 := (hbx.cell (show (⟨w.heap.size + 1 + 1, 3, none⟩ : Addr).block < _ from World.block_lt_of_cell? _ _ q_x3)).trans q_x3
        replace q_x4 := (hbx.cell (show (⟨w.heap.size + 1 + 1, 4, none⟩ : Addr).block < _ from World.block_lt_of_cell? _ _ q_x4)).trans q_x4
        replace q_x5 := (hbx.cell (show (⟨w.heap.size + 1 + 1, 5, none⟩ : Addr).block < _ from World.block_lt_of_cell? _ _ q_x5)).trans q_x5
        replace HRp := Lib.hid (ReadP.up HRp.out hbx)
        replace HB := Lib.hid (HB.out.trans (hbx.mono HB.out.size)); clear hbx hb
        cases e4 : fitB xk kd with
        | false =>
          have He4 := Lib.hid e4; clear e4
          go_wp2_with fail
          go_ret
          exact ⟨ret_iq (by unfold rsV; rw [if_pos He1.out, if_pos He2.out, if_pos He3.out, if_neg (by rw [He4.out]; exact Bool.false_ne_true)]), HB.out⟩
        | true =>
          have He4 := Lib.hid e4; clear e4
          by_cases f1 : f = h
          · have Hf1 := Lib.hid f1
            have x3 : (f.toList == h.toList) = true := beqL_yes f1
            clear f1
            have He5 := Lib.hid (show shB kd h f g = false by unfold shB; simp [Hf1.out])
            go_wp2_with fail
            refine (chk_spec bo g _ hl).mono ?_
            rintro e w4 ⟨rfl, hb⟩
            have hbx := hb
            replace q_p0 := (hbx.cell (show (⟨w.heap.size, 0, none⟩ : Addr).block < _ from World.block_lt_of_cell? _ _ q_p0)).trans q_p0
            replace q_p1 := (hbx.cell (show (⟨w.heap.size, 1, none⟩ : Addr).block < _ from World.block_lt_of_cell? _ _ q_p1)).trans q_p1
            replace q_p2 := (hbx.cell (show (⟨w.heap.size, 2, none⟩ : Addr).block < _ from World.block_lt_of_cell? _ _ q_p2)).trans q_p2
            replace q_p3 := (hbx.cell (show (⟨w.heap.size, 3, none⟩ : Addr).block < _ from World.block_lt_of_cell? _ _ q_p3)).trans q_p3
            replace q_p4 := (hbx.cell (show (⟨w.heap.size, 4, none⟩ : Addr).block < _ from World.block_lt_of_cell? _ _ q_p4)).trans q_p4
            replace q_q0 := (hbx.cell (show (⟨w.heap.size + 1, 0, none⟩ : Addr).block < _ from World.block_lt_of_cell? _ _ q_q0)).trans q_q0
            replace q_q1 := (hbx.cell (show (⟨w.heap.size + 1, 1, none⟩ : Addr).block < _ from World.block_lt_of_cell? _ _ q_q1)).trans q_q1
            replace q_q2 := (hbx.cell (show (⟨w.heap.size + 1, 2, none⟩ : Addr).block < _ from World.block_lt_of_cell? _ _ q_q2)).trans q_q2
            replace q_q3 := (hbx.cell (show (⟨w.heap.size + 1, 3, none⟩ : Addr).block < _ from World.block_lt_of_cell? _ _ q_q3)).trans q_q3
            replace q_q4 := (hbx.cell (show (⟨w.heap.size + 1, 4, none⟩ : Addr).block < _ from World.block_lt_of_cell? _ _ q_q4)).trans q_q4
            replace q_x0 := (hbx.cell (show (⟨w.heap.size + 1 + 1, 0, none⟩ : Addr).block < _ from World.block_lt_of_cell? _ _ q_x0)).trans q_x0
            replace q_x1 := (hbx.cell (show (⟨w.heap.size + 1 + 1, 1, none⟩ : Addr).block < _ from World.block_lt_of_cell? _ _ q_x1)).trans q_x1
            replace q_x2 := (hbx.cell (show (⟨w.heap.size + 1 + 1, 2, none⟩ : Addr).block < _ from World.block_lt_of_cell? _ _ q_x2)).trans q_x2
            replace q_x3 := (hbx.cell (show (⟨w.heap.size + 1 + 1, 3, none⟩ : Addr).block < _ from World.block_lt_of_cell? _ _ q_x3)).trans q_x3
            replace q_x4 := (hbx.cell (show (⟨w.heap.size + 1 + 1, 4, none⟩ : Addr).block < _ from World.block_lt_of_cell? _ _ q_x4)).trans q_x4
            replace q_x5 := (hbx.cell (show (⟨w.heap.size + 1 + 1, 5, none⟩ : Addr).block < _ from World.block_lt_of_cell? _ _ q_x5)).trans q_x5
            replace HRp := Lib.hid (ReadP.up HRp.out hbx)
            replace HB := Lib.hid (HB.out.trans (hbx.mono HB.out.size)); clear hbx hb
            cases e6 : chB bo g with
            | false =>
              have He6 := Lib.hid e6; clear e6
              go_wp2_with fail
              go_ret
              exact ⟨ret_iq (by unfold rsV dgV; rw [if_pos He1.out, if_pos He2.out, if_pos He3.out, if_pos He4.out, if_neg (by rw [He5.out]; exact Bool.false_ne_true), if_neg (by rw [He6.out]; exact Bool.false_ne_true)]), HB.out⟩
            | true =>
              have He6 := Lib.hid e6; clear e6
              go_wp2_with fail
              go_ret
              exact ⟨ret_iq (by unfold rsV dgV; rw [if_pos He1.out, if_pos He2.out, if_pos He3.out, if_pos He4.out, if_neg (by rw [He5.out]; exact Bool.false_ne_true), if_pos He6.out]), HB.out⟩
          · have Hf1 := Lib.hid f1
            have x3 : (f.toList == h.toList) = false := beqL_no f1
            clear f1
            cases sh with
            | true =>
              go_wp2_with fail
              refine (chk_spec bo g _ hl).mono ?_
              rintro e w4 ⟨rfl, hb⟩
              have hbx := hb
              replace q_p0 := (hbx.cell (show (⟨w.heap.size, 0, none⟩ : Addr).block < _ from World.block_lt_of_cell? _ _ q_p0)).trans q_p0
              replace q_p1 := (hbx.cell (show (⟨w.heap.size, 1, none⟩ : Addr).block < _ from World.block_lt_of_cell? _ _ q_p1)).trans q_p1
              replace q_p2 := (hbx.cell (show (⟨w.heap.size, 2, none⟩ : Addr).block < _ from World.block_lt_of_cell? _ _ q_p2)).trans q_p2
              replace q_p3 := (hbx.cell (show (⟨w.heap.size, 3, none⟩ : Addr).block < _ from World.block_lt_of_cell? _ _ q_p3)).trans q_p3
              replace q_p4 := (hbx.cell (show (⟨w.heap.size, 4, none⟩ : Addr).block < _ from World.block_lt_of_cell? _ _ q_p4)).trans q_p4
              replace q_q0 := (hbx.cell (show (⟨w.heap.size + 1, 0, none⟩ : Addr).block < _ from World.block_lt_of_cell? _ _ q_q0)).trans q_q0
              replace q_q1 := (hbx.cell (show (⟨w.heap.size + 1, 1, none⟩ : Addr).block < _ from World.block_lt_of_cell? _ _ q_q1)).trans q_q1
              replace q_q2 := (hbx.cell (show (⟨w.heap.size + 1, 2, none⟩ : Addr).block < _ from World.block_lt_of_cell? _ _ q_q2)).trans q_q2
              replace q_q3 := (hbx.cell (show (⟨w.heap.size + 1, 3, none⟩ : Addr).block < _ from World.block_lt_of_cell? _ _ q_q3)).trans q_q3
              replace q_q4 := (hbx.cell (show (⟨w.heap.size + 1, 4, none⟩ : Addr).block < _ from World.block_lt_of_cell? _ _ q_q4)).trans q_q4
              replace q_x0 := (hbx.cell (show (⟨w.heap.size + 1 + 1, 0, none⟩ : Addr).block < _ from World.block_lt_of_cell? _ _ q_x0)).trans q_x0
              replace q_x1 := (hbx.cell (show (⟨w.heap.size + 1 + 1, 1, none⟩ : Addr).block < _ from World.block_lt_of_cell? _ _ q_x1)).trans q_x1
              replace q_x2 := (hbx.cell (show (⟨w.heap.size + 1 + 1, 2, none⟩ : Addr).block < _ from World.block_lt_of_cell? _ _ q_x2)).trans q_x2
              replace q_x3 := (hbx.cell (show (⟨w.heap.size + 1 + 1, 3, none⟩ : Addr).block < _ from World.block_lt_of_cell? _ _ q_x3)).trans q_x3
              replace q_x4 := (hbx.cell (show (⟨w.heap.size + 1 + 1, 4, none⟩ : Addr).block < _ from World.block_lt_of_cell? _ _ q_x4)).trans q_x4
              replace q_x5 := (hbx.cell (show (⟨w.heap.size + 1 + 1, 5, none⟩ : Addr).block < _ from World.block_lt_of_cell? _ _ q_x5)).trans q_x5
              replace HRp := Lib.hid (ReadP.up HRp.out hbx)
              replace HB := Lib.hid (HB.out.trans (hbx.mono HB.out.size)); clear hbx hb
              cases e6 : chB bo g with
              | false =>
                have He6 := Lib.hid e6; clear e6
                go_wp2_with fail
                go_ret
                exact ⟨ret_iq (by unfold rsV dgV; rw [if_pos He1.out, if_pos He2.out, if_pos He3.out, if_pos He4.out, if_sh, if_neg (by rw [He6.out]; exact Bool.false_ne_true)]), HB.out⟩
              | true =>
                have He6 := Lib.hid e6; clear e6
                go_wp2_with fail
                go_ret
                exact ⟨ret_iq (by unfold rsV dgV; rw [if_pos He1.out, if_pos He2.out, if_pos He3.out, if_pos He4.out, if_sh, if_pos He6.out]), HB.out⟩
            | false =>
              by_cases f2 : kd = 5
              · have Hf2 := Lib.hid f2
                have x5 : (kd == 5) = true := beq_iff_eq.2 f2
                clear f2
                have He5 := Lib.hid (show shB kd h f g = true by unfold shB; simp [Hf1.out, Hf2.out])
                go_wp2_with fail
                go_ret
                exact ⟨ret_iq (by unfold rsV; rw [if_pos He1.out, if_pos He2.out, if_pos He3.out, if_pos He4.out, if_pos He5.out, if_neg Bool.false_ne_true]), HB.out⟩
              · have Hf2 := Lib.hid f2
                have x5 : (kd == 5) = false := beq_eq_false_iff_ne.2 f2
                clear f2
                obtain ⟨D, hD⟩ : ∃ D, decide (g.size = 0) = D := ⟨_, rfl⟩
                have e9 := empQ_size g; rw [hD] at e9
                have HD := Lib.hid hD; clear hD
                cases D with
                | true =>
                  have He5 := Lib.hid (show shB kd h f g = false by unfold shB; simp [Hf2.out, of_decide_eq_true HD.out])
                  go_wp2_with fail
                  refine (chk_spec bo g _ hl).mono ?_
                  rintro e w5 ⟨rfl, hb⟩
                  have hbx := hb
                  replace q_p0 := (hbx.cell (show (⟨w.heap.size, 0, none⟩ : Addr).block < _ from World.block_lt_of_cell? _ _ q_p0)).trans q_p0
                  replace q_p1 := (hbx.cell (show (⟨w.heap.size, 1, none⟩ : Addr).block < _ from World.block_lt_of_cell? _ _ q_p1)).trans q_p1
                  replace q_p2 := (hbx.cell (show (⟨w.heap.size, 2, none⟩ : Addr).block < _ from World.block_lt_of_cell? _ _ q_p2)).trans q_p2
                  replace q_p3 := (hbx.cell (show (⟨w.heap.size, 3, none⟩ : Addr).block < _ from World.block_lt_of_cell? _ _ q_p3)).trans q_p3
                  replace q_p4 := (hbx.cell (show (⟨w.heap.size, 4, none⟩ : Addr).block < _ from World.block_lt_of_cell? _ _ q_p4)).trans q_p4
                  replace q_q0 := (hbx.cell (show (⟨w.heap.size + 1, 0, none⟩ : Addr).block < _ from World.block_lt_of_cell? _ _ q_q0)).trans q_q0
                  replace q_q1 := (hbx.cell (show (⟨w.heap.size + 1, 1, none⟩ : Addr).block < _ from World.block_lt_of_cell? _ _ q_q1)).trans q_q1
                  replace q_q2 := (hbx.cell (show (⟨w.heap.size + 1, 2, none⟩ : Addr).block < _ from World.block_lt_of_cell? _ _ q_q2)).trans q_q2
                  replace q_q3 := (hbx.cell (show (⟨w.heap.size + 1, 3, none⟩ : Addr).block < _ from World.block_lt_of_cell? _ _ q_q3)).trans q_q3
                  replace q_q4 := (hbx.cell (show (⟨w.heap.size + 1, 4, none⟩ : Addr).block < _ from World.block_lt_of_cell? _ _ q_q4)).trans q_q4
                  replace q_x0 := (hbx.cell (show (⟨w.heap.size + 1 + 1, 0, none⟩ : Addr).block < _ from World.block_lt_of_cell? _ _ q_x0)).trans q_x0
                  replace q_x1 := (hbx.cell (show (⟨w.heap.size + 1 + 1, 1, none⟩ : Addr).block < _ from World.block_lt_of_cell? _ _ q_x1)).trans q_x1
                  replace q_x2 := (hbx.cell (show (⟨w.heap.size + 1 + 1, 2, none⟩ : Addr).block < _ from World.block_lt_of_cell? _ _ q_x2)).trans q_x2
                  replace q_x3 := (hbx.cell (show (⟨w.heap.size + 1 + 1, 3, none⟩ : Addr).block < _ from World.block_lt_of_cell? _ _ q_x3)).trans q_x3
                  replace q_x4 := (hbx.cell (show (⟨w.heap.size + 1 + 1, 4, none⟩ : Addr).block < _ from World.block_lt_of_cell? _ _ q_x4)).trans q_x4
                  replace q_x5 := (hbx.cell (show (⟨w.heap.size + 1 + 1, 5, none⟩ : Addr).block < _ from World.block_lt_of_cell? _ _ q_x5)).trans q_x5
                  replace HRp := Lib.hid (ReadP.up HRp.out hbx)
                  replace HB := Lib.hid (HB.out.trans (hbx.mono HB.out.size)); clear hbx hb
                  cases e6 : chB bo g with
                  | false =>
                    have He6 := Lib.hid e6; clear e6
                    go_wp2_with fail
                    go_ret
                    exact ⟨ret_iq (by unfold rsV dgV; rw [if_pos He1.out, if_pos He2.out, if_pos He3.out, if_pos He4.out, if_neg (by rw [He5.out]; exact Bool.false_ne_true), if_neg (by rw [He6.out]; exact Bool.false_ne_true)]), HB.out⟩
                  | true =>
                    have He6 := Lib.hid e6; clear e6
                    go_wp2_with fail
                    go_ret
                    exact ⟨ret_iq (by unfold rsV dgV; rw [if_pos He1.out, if_pos He2.out, if_pos He3.out, if_pos He4.out, if_neg (by rw [He5.out]; exact Bool.false_ne_true), if_pos He6.out]), HB.out⟩
                | false =>
                  have He5 := Lib.hid (show shB kd h f g = true by unfold shB; simp [Hf1.out, of_decide_eq_false HD.out])
                  have e10 : (g.toList != []) = true := by rw [bne, e9]; rfl
                  go_wp2_with fail
                  go_ret
                  exact ⟨ret_iq (by unfold rsV; rw [if_pos He1.out, if_pos He2.out, if_pos He3.out, if_pos He4.out, if_pos He5.out, if_neg Bool.false_ne_true]), HB.out⟩
      · have He3 := Lib.hid e3
        have x1 : (st == 200) = false := beq_eq_false_iff_ne.2 e3
        have x2 : (st != 200) = true := by rw [bne, x1]; rfl
        clear e3
        go_wp2_with fail
        go_ret
        exact ⟨ret_iq (by unfold rsV; rw [if_pos He1.out, if_pos He2.out, if_neg He3.out]), HB.out⟩
  · rw [e1]; have He1 := Lib.hid e1; clear e1
    go_wp2_with fail
    go_ret
    exact ⟨ret_iq (by unfold rsV; rw [if_neg (by rw [He1.out]; omega)]), HB.out⟩

set_option maxRecDepth 100000 in
set_option maxHeartbeats 2000000 in
theorem vf_impl (set : Bool) (scr sty img : List ByteArray) (non : ByteArray) (a1 : Option Addr) (n1 c1 : Nat) (a2 : Option Addr) (n2 c2 : Nat) (a3 : Option Addr) (n3 c3 : Nat) (kd : Int) (h p f g : ByteArray) (st xk : Int) (bo : ByteArray) (ag : Int) (sh : Bool) (po : ByteArray) (ok : RqOk h p f g) (hz : po.size ≤ 1048576) (hl : bo.size ≤ 1048576) (w : World) (hr : ReadP w.heap.size w (.slice a1 n1 c1) (.slice a2 n2 c2) (.slice a3 n3 c3) ⟨set, scr, sty, img, non⟩) (hm : Max0 w) (htab : Lib.TabIs Tryz.prog w "internal/strconv.uint64pow10" .u64 Lib.pow10Tab) :
    Calls Tryz.prog 77 #[.int .i64 2, .agg #[.bool set, .slice a1 n1 c1, .slice a2 n2 c2, .slice a3 n3 c3, .string non], .agg #[.int .i64 kd, .string h, .string p, .string f, .string g], .agg #[.int .i64 st, .int .i64 xk, .string bo, .int .i64 ag, .bool sh, .string po]] w fun e w' => e = .returned (.int .i64 (rsV (⟨set, scr, sty, img, non⟩ : Pol) kd h p f g st xk bo ag sh po)) ∧ Below w.heap.size w w' := by
  have HRp := Lib.hid hr; clear hr
  have HM := Lib.hid hm; have HT := Lib.hid (Lib.tabBelow_of_tabIs htab); clear hm htab
  obtain ⟨W0, hW⟩ : ∃ W, (((w.alloc (.cells #[.bool set, .slice a1 n1 c1, .slice a2 n2 c2, .slice a3 n3 c3, .string non] 26)).alloc (.cells #[.int .i64 kd, .string h, .string p, .string f, .string g] 30)).alloc (.cells #[.int .i64 st, .int .i64 xk, .string bo, .int .i64 ag, .bool sh, .string po] 32)) = W := ⟨_, rfl⟩
  have HB := Lib.hid (show Below w.heap.size w W0 by rw [← hW]; exact ((((Below.refl w.heap.size w).alloc (by first | (simp; done) | (simp; omega)) _).alloc (by first | (simp; done) | (simp; omega)) _).alloc (by first | (simp; done) | (simp; omega)) _))
  have q_p0 : W0.cell? ⟨w.heap.size, 0, none⟩ = some (.bool set) := by rw [← hW]; exact box_cell (box3_0 _ _ _ _) (j := 0) rfl
  have q_p1 : W0.cell? ⟨w.heap.size, 1, none⟩ = some (.slice a1 n1 c1) := by rw [← hW]; exact box_cell (box3_0 _ _ _ _) (j := 1) rfl
  have q_p2 : W0.cell? ⟨w.heap.size, 2, none⟩ = some (.slice a2 n2 c2) := by rw [← hW]; exact box_cell (box3_0 _ _ _ _) (j := 2) rfl
  have q_p3 : W0.cell? ⟨w.heap.size, 3, none⟩ = some (.slice a3 n3 c3) := by rw [← hW]; exact box_cell (box3_0 _ _ _ _) (j := 3) rfl
  have q_p4 : W0.cell? ⟨w.heap.size, 4, none⟩ = some (.string non) := by rw [← hW]; exact box_cell (box3_0 _ _ _ _) (j := 4) rfl
  have q_q0 : W0.cell? ⟨w.heap.size + 1, 0, none⟩ = some (.int .i64 kd) := by rw [← hW]; exact box_cell (box3_1 _ _ _ _) (j := 0) rfl
  have q_q1 : W0.cell? ⟨w.heap.size + 1, 1, none⟩ = some (.string h) := by rw [← hW]; exact box_cell (box3_1 _ _ _ _) (j := 1) rfl
  have q_q2 : W0.cell? ⟨w.heap.size + 1, 2, none⟩ = some (.string p) := by rw [← hW]; exact box_cell (box3_1 _ _ _ _) (j := 2) rfl
  have q_q3 : W0.cell? ⟨w.heap.size + 1, 3, none⟩ = some (.string f) := by rw [← hW]; exact box_cell (box3_1 _ _ _ _) (j := 3) rfl
  have q_q4 : W0.cell? ⟨w.heap.size + 1, 4, none⟩ = some (.string g) := by rw [← hW]; exact box_cell (box3_1 _ _ _ _) (j := 4) rfl
  have q_x0 : W0.cell? ⟨w.heap.size + 1 + 1, 0, none⟩ = some (.int .i64 st) := by rw [← hW]; exact box_cell (box3_2 _ _ _ _) (j := 0) rfl
  have q_x1 : W0.cell? ⟨w.heap.size + 1 + 1, 1, none⟩ = some (.int .i64 xk) := by rw [← hW]; exact box_cell (box3_2 _ _ _ _) (j := 1) rfl
  have q_x2 : W0.cell? ⟨w.heap.size + 1 + 1, 2, none⟩ = some (.string bo) := by rw [← hW]; exact box_cell (box3_2 _ _ _ _) (j := 2) rfl
  have q_x3 : W0.cell? ⟨w.heap.size + 1 + 1, 3, none⟩ = some (.int .i64 ag) := by rw [← hW]; exact box_cell (box3_2 _ _ _ _) (j := 3) rfl
  have q_x4 : W0.cell? ⟨w.heap.size + 1 + 1, 4, none⟩ = some (.bool sh) := by rw [← hW]; exact box_cell (box3_2 _ _ _ _) (j := 4) rfl
  have q_x5 : W0.cell? ⟨w.heap.size + 1 + 1, 5, none⟩ = some (.string po) := by rw [← hW]; exact box_cell (box3_2 _ _ _ _) (j := 5) rfl
  replace HRp := Lib.hid (ReadP.up HRp.out HB.out)
  have HW := Lib.hid hW; clear hW
  have HQ := Lib.hid (fun X hx => chQ_impl set scr sty img non a1 n1 c1 a2 n2 c2 a3 n3 c3 kd h p f g ok X hx)
  have HF := Lib.hid (fun X => fits_impl st xk bo ag sh po kd X)
  clear ok
  go_enter Tryz.func77, Tryz.ntmps77
  go_wp2_with fail
  rw [HW.out]
  refine (HQ.out _ HRp.out).mono ?_
  rintro e w1 ⟨rfl, hb⟩
  have hbx := hb
  replace q_p0 := (hbx.cell (show (⟨w.heap.size, 0, none⟩ : Addr).block < _ from World.block_lt_of_cell? _ _ q_p0)).trans q_p0
  replace q_p1 := (hbx.cell (show (⟨w.heap.size, 1, none⟩ : Addr).block < _ from World.block_lt_of_cell? _ _ q_p1)).trans q_p1
  replace q_p2 := (hbx.cell (show (⟨w.heap.size, 2, none⟩ : Addr).block < _ from World.block_lt_of_cell? _ _ q_p2)).trans q_p2
  replace q_p3 := (hbx.cell (show (⟨w.heap.size, 3, none⟩ : Addr).block < _ from World.block_lt_of_cell? _ _ q_p3)).trans q_p3
  replace q_p4 := (hbx.cell (show (⟨w.heap.size, 4, none⟩ : Addr).block < _ from World.block_lt_of_cell? _ _ q_p4)).trans q_p4
  replace q_q0 := (hbx.cell (show (⟨w.heap.size + 1, 0, none⟩ : Addr).block < _ from World.block_lt_of_cell? _ _ q_q0)).trans q_q0
  replace q_q1 := (hbx.cell (show (⟨w.heap.size + 1, 1, none⟩ : Addr).block < _ from World.block_lt_of_cell? _ _ q_q1)).trans q_q1
  replace q_q2 := (hbx.cell (show (⟨w.heap.size + 1, 2, none⟩ : Addr).block < _ from World.block_lt_of_cell? _ _ q_q2)).trans q_q2
  replace q_q3 := (hbx.cell (show (⟨w.heap.size + 1, 3, none⟩ : Addr).block < _ from World.block_lt_of_cell? _ _ q_q3)).trans q_q3
  replace q_q4 := (hbx.cell (show (⟨w.heap.size + 1, 4, none⟩ : Addr).block < _ from World.block_lt_of_cell? _ _ q_q4)).trans q_q4
  replace q_x0 := (hbx.cell (show (⟨w.heap.size + 1 + 1, 0, none⟩ : Addr).block < _ from World.block_lt_of_cell? _ _ q_x0)).trans q_x0
  replace q_x1 := (hbx.cell (show (⟨w.heap.size + 1 + 1, 1, none⟩ : Addr).block < _ from World.block_lt_of_cell? _ _ q_x1)).trans q_x1
  replace q_x2 := (hbx.cell (show (⟨w.heap.size + 1 + 1, 2, none⟩ : Addr).block < _ from World.block_lt_of_cell? _ _ q_x2)).trans q_x2
  replace q_x3 := (hbx.cell (show (⟨w.heap.size + 1 + 1, 3, none⟩ : Addr).block < _ from World.block_lt_of_cell? _ _ q_x3)).trans q_x3
  replace q_x4 := (hbx.cell (show (⟨w.heap.size + 1 + 1, 4, none⟩ : Addr).block < _ from World.block_lt_of_cell? _ _ q_x4)).trans q_x4
  replace q_x5 := (hbx.cell (show (⟨w.heap.size + 1 + 1, 5, none⟩ : Addr).block < _ from World.block_lt_of_cell? _ _ q_x5)).trans q_x5
  replace HRp := Lib.hid (ReadP.up HRp.out hbx)
  replace HB := Lib.hid (HB.out.trans (hbx.mono HB.out.size)); clear hbx hb
  obtain e1 | e1 := rqV_or (⟨set, scr, sty, img, non⟩ : Pol) kd h p f g
  · rw [e1]; have He1 := Lib.hid e1; clear e1
    go_wp2_with fail
    refine (isRs_impl st xk bo ag sh po hz _ (HM.out.on HB.out)).mono ?_
    rintro e w2 ⟨rfl, hb⟩
    have hbx := hb
    replace q_p0 := (hbx.cell (show (⟨w.heap.size, 0, none⟩ : Addr).block < _ from World.block_lt_of_cell? _ _ q_p0)).trans q_p0
    replace q_p1 := (hbx.cell (show (⟨w.heap.size, 1, none⟩ : Addr).block < _ from World.block_lt_of_cell? _ _ q_p1)).trans q_p1
    replace q_p2 := (hbx.cell (show (⟨w.heap.size, 2, none⟩ : Addr).block < _ from World.block_lt_of_cell? _ _ q_p2)).trans q_p2
    replace q_p3 := (hbx.cell (show (⟨w.heap.size, 3, none⟩ : Addr).block < _ from World.block_lt_of_cell? _ _ q_p3)).trans q_p3
    replace q_p4 := (hbx.cell (show (⟨w.heap.size, 4, none⟩ : Addr).block < _ from World.block_lt_of_cell? _ _ q_p4)).trans q_p4
    replace q_q0 := (hbx.cell (show (⟨w.heap.size + 1, 0, none⟩ : Addr).block < _ from World.block_lt_of_cell? _ _ q_q0)).trans q_q0
    replace q_q1 := (hbx.cell (show (⟨w.heap.size + 1, 1, none⟩ : Addr).block < _ from World.block_lt_of_cell? _ _ q_q1)).trans q_q1
    replace q_q2 := (hbx.cell (show (⟨w.heap.size + 1, 2, none⟩ : Addr).block < _ from World.block_lt_of_cell? _ _ q_q2)).trans q_q2
    replace q_q3 := (hbx.cell (show (⟨w.heap.size + 1, 3, none⟩ : Addr).block < _ from World.block_lt_of_cell? _ _ q_q3)).trans q_q3
    replace q_q4 := (hbx.cell (show (⟨w.heap.size + 1, 4, none⟩ : Addr).block < _ from World.block_lt_of_cell? _ _ q_q4)).trans q_q4
    replace q_x0 := (hbx.cell (show (⟨w.heap.size + 1 + 1, 0, none⟩ : Addr).block < _ from World.block_lt_of_cell? _ _ q_x0)).trans q_x0
    replace q_x1 := (hbx.cell (show (⟨w.heap.size + 1 + 1, 1, none⟩ : Addr).block < _ from World.block_lt_of_cell? _ _ q_x1)).trans q_x1
    replace q_x2 := (hbx.cell (show (⟨w.heap.size + 1 + 1, 2, none⟩ : Addr).block < _ from World.block_lt_of_cell? _ _ q_x2)).trans q_x2
    replace q_x3 := (hbx.cell (show (⟨w.heap.size + 1 + 1, 3, none⟩ : Addr).block < _ from World.block_lt_of_cell? _ _ q_x3)).trans q_x3
    replace q_x4 := (hbx.cell (show (⟨w.heap.size + 1 + 1, 4, none⟩ : Addr).block < _ from World.block_lt_of_cell? _ _ q_x4)).trans q_x4
    replace q_x5 := (hbx.cell (show (⟨w.heap.size + 1 + 1, 5, none⟩ : Addr).block < _ from World.block_lt_of_cell? _ _ q_x5)).trans q_x5
    replace HRp := Lib.hid (ReadP.up HRp.out hbx)
    replace HB := Lib.hid (HB.out.trans (hbx.mono HB.out.size)); clear hbx hb
    cases e2 : isRs st xk bo ag po with
    | false =>
      have He2 := Lib.hid e2; clear e2
      go_wp2_with fail
      go_ret
      exact ⟨ret_iq (by unfold rsV; rw [if_pos He1.out, if_neg (by rw [He2.out]; exact Bool.false_ne_true)]), HB.out⟩
    | true =>
      have He2 := Lib.hid e2; clear e2
      by_cases e3 : st = 200
      · have He3 := Lib.hid e3
        have x1 : (st == 200) = true := beq_iff_eq.2 e3
        have x2 : (st != 200) = false := by rw [bne, x1]; rfl
        clear e3
        go_wp2_with fail
        refine (HF.out _).mono ?_
        rintro e w3 ⟨rfl, hb⟩
        have hbx := hb.below
        replace q_p0 := (hbx.cell (show (⟨w.heap.size, 0, none⟩ : Addr).block < _ from World.block_lt_of_cell? _ _ q_p0)).trans q_p0
        replace q_p1 := (hbx.cell (show (⟨w.heap.size, 1, none⟩ : Addr).block < _ from World.block_lt_of_cell? _ _ q_p1)).trans q_p1
        replace q_p2 := (hbx.cell (show (⟨w.heap.size, 2, none⟩ : Addr).block < _ from World.block_lt_of_cell? _ _ q_p2)).trans q_p2
        replace q_p3 := (hbx.cell (show (⟨w.heap.size, 3, none⟩ : Addr).block < _ from World.block_lt_of_cell? _ _ q_p3)).trans q_p3
        replace q_p4 := (hbx.cell (show (⟨w.heap.size, 4, none⟩ : Addr).block < _ from World.block_lt_of_cell? _ _ q_p4)).trans q_p4
        replace q_q0 := (hbx.cell (show (⟨w.heap.size + 1, 0, none⟩ : Addr).block < _ from World.block_lt_of_cell? _ _ q_q0)).trans q_q0
        replace q_q1 := (hbx.cell (show (⟨w.heap.size + 1, 1, none⟩ : Addr).block < _ from World.block_lt_of_cell? _ _ q_q1)).trans q_q1
        replace q_q2 := (hbx.cell (show (⟨w.heap.size + 1, 2, none⟩ : Addr).block < _ from World.block_lt_of_cell? _ _ q_q2)).trans q_q2
        replace q_q3 := (hbx.cell (show (⟨w.heap.size + 1, 3, none⟩ : Addr).block < _ from World.block_lt_of_cell? _ _ q_q3)).trans q_q3
        replace q_q4 := (hbx.cell (show (⟨w.heap.size + 1, 4, none⟩ : Addr).block < _ from World.block_lt_of_cell? _ _ q_q4)).trans q_q4
        replace q_x0 := (hbx.cell (show (⟨w.heap.size + 1 + 1, 0, none⟩ : Addr).block < _ from World.block_lt_of_cell? _ _ q_x0)).trans q_x0
        replace q_x1 := (hbx.cell (show (⟨w.heap.size + 1 + 1, 1, none⟩ : Addr).block < _ from World.block_lt_of_cell? _ _ q_x1)).trans q_x1
        replace q_x2 := (hbx.cell (show (⟨w.heap.size + 1 + 1, 2, none⟩ : Addr).block < _ from World.block_lt_of_cell? _ _ q_x2)).trans q_x2
        replace q_x3 := (hbx.cell (show (⟨w.heap.size + 1 + 1, 3, none⟩ : Addr).block < _ from World.block_lt_of_cell? _ _ q_x3)).trans q_x3
        replace q_x4 := (hbx.cell (show (⟨w.heap.size + 1 + 1, 4, none⟩ : Addr).block < _ from World.block_lt_of_cell? _ _ q_x4)).trans q_x4
        replace q_x5 := (hbx.cell (show (⟨w.heap.size + 1 + 1, 5, none⟩ : Addr).block < _ from World.block_lt_of_cell? _ _ q_x5)).trans q_x5
        replace HRp := Lib.hid (ReadP.up HRp.out hbx)
        replace HB := Lib.hid (HB.out.trans (hbx.mono HB.out.size)); clear hbx hb
        cases e4 : fitB xk kd with
        | false =>
          have He4 := Lib.hid e4; clear e4
          go_wp2_with fail
          go_ret
          exact ⟨ret_iq (by unfold rsV; rw [if_pos He1.out, if_pos He2.out, if_pos He3.out, if_neg (by rw [He4.out]; exact Bool.false_ne_true)]), HB.out⟩
        | true =>
          have He4 := Lib.hid e4; clear e4
          go_wp2_with fail
          refine (ns_impl kd h p f g _).mono ?_
          rintro e w4 ⟨rfl, hb⟩
          have hbx := hb.below
          replace q_p0 := (hbx.cell (show (⟨w.heap.size, 0, none⟩ : Addr).block < _ from World.block_lt_of_cell? _ _ q_p0)).trans q_p0
          replace q_p1 := (hbx.cell (show (⟨w.heap.size, 1, none⟩ : Addr).block < _ from World.block_lt_of_cell? _ _ q_p1)).trans q_p1
          replace q_p2 := (hbx.cell (show (⟨w.heap.size, 2, none⟩ : Addr).block < _ from World.block_lt_of_cell? _ _ q_p2)).trans q_p2
          replace q_p3 := (hbx.cell (show (⟨w.heap.size, 3, none⟩ : Addr).block < _ from World.block_lt_of_cell? _ _ q_p3)).trans q_p3
          replace q_p4 := (hbx.cell (show (⟨w.heap.size, 4, none⟩ : Addr).block < _ from World.block_lt_of_cell? _ _ q_p4)).trans q_p4
          replace q_q0 := (hbx.cell (show (⟨w.heap.size + 1, 0, none⟩ : Addr).block < _ from World.block_lt_of_cell? _ _ q_q0)).trans q_q0
          replace q_q1 := (hbx.cell (show (⟨w.heap.size + 1, 1, none⟩ : Addr).block < _ from World.block_lt_of_cell? _ _ q_q1)).trans q_q1
          replace q_q2 := (hbx.cell (show (⟨w.heap.size + 1, 2, none⟩ : Addr).block < _ from World.block_lt_of_cell? _ _ q_q2)).trans q_q2
          replace q_q3 := (hbx.cell (show (⟨w.heap.size + 1, 3, none⟩ : Addr).block < _ from World.block_lt_of_cell? _ _ q_q3)).trans q_q3
          replace q_q4 := (hbx.cell (show (⟨w.heap.size + 1, 4, none⟩ : Addr).block < _ from World.block_lt_of_cell? _ _ q_q4)).trans q_q4
          replace q_x0 := (hbx.cell (show (⟨w.heap.size + 1 + 1, 0, none⟩ : Addr).block < _ from World.block_lt_of_cell? _ _ q_x0)).trans q_x0
          replace q_x1 := (hbx.cell (show (⟨w.heap.size + 1 + 1, 1, none⟩ : Addr).block < _ from World.block_lt_of_cell? _ _ q_x1)).trans q_x1
          replace q_x2 := (hbx.cell (show (⟨w.heap.size + 1 + 1, 2, none⟩ : Addr).block < _ from World.block_lt_of_cell? _ _ q_x2)).trans q_x2
          replace q_x3 := (hbx.cell (show (⟨w.heap.size + 1 + 1, 3, none⟩ : Addr).block < _ from World.block_lt_of_cell? _ _ q_x3)).trans q_x3
          replace q_x4 := (hbx.cell (show (⟨w.heap.size + 1 + 1, 4, none⟩ : Addr).block < _ from World.block_lt_of_cell? _ _ q_x4)).trans q_x4
          replace q_x5 := (hbx.cell (show (⟨w.heap.size + 1 + 1, 5, none⟩ : Addr).block < _ from World.block_lt_of_cell? _ _ q_x5)).trans q_x5
          replace HRp := Lib.hid (ReadP.up HRp.out hbx)
          replace HB := Lib.hid (HB.out.trans (hbx.mono HB.out.size)); clear hbx hb
          cases e5 : shB kd h f g with
          | false =>
            have He5 := Lib.hid e5; clear e5
            go_wp2_with fail
            refine (chk_impl bo g _ hl (HT.out _ HB.out)).mono ?_
            rintro e w5 ⟨rfl, hb⟩
            have hbx := hb
            replace q_p0 := (hbx.cell (show (⟨w.heap.size, 0, none⟩ : Addr).block < _ from World.block_lt_of_cell? _ _ q_p0)).trans q_p0
            replace q_p1 := (hbx.cell (show (⟨w.heap.size, 1, none⟩ : Addr).block < _ from World.block_lt_of_cell? _ _ q_p1)).trans q_p1
            replace q_p2 := (hbx.cell (show (⟨w.heap.size, 2, none⟩ : Addr).block < _ from World.block_lt_of_cell? _ _ q_p2)).trans q_p2
            replace q_p3 := (hbx.cell (show (⟨w.heap.size, 3, none⟩ : Addr).block < _ from World.block_lt_of_cell? _ _ q_p3)).trans q_p3
            replace q_p4 := (hbx.cell (show (⟨w.heap.size, 4, none⟩ : Addr).block < _ from World.block_lt_of_cell? _ _ q_p4)).trans q_p4
            replace q_q0 := (hbx.cell (show (⟨w.heap.size + 1, 0, none⟩ : Addr).block < _ from World.block_lt_of_cell? _ _ q_q0)).trans q_q0
            replace q_q1 := (hbx.cell (show (⟨w.heap.size + 1, 1, none⟩ : Addr).block < _ from World.block_lt_of_cell? _ _ q_q1)).trans q_q1
            replace q_q2 := (hbx.cell (show (⟨w.heap.size + 1, 2, none⟩ : Addr).block < _ from World.block_lt_of_cell? _ _ q_q2)).trans q_q2
            replace q_q3 := (hbx.cell (show (⟨w.heap.size + 1, 3, none⟩ : Addr).block < _ from World.block_lt_of_cell? _ _ q_q3)).trans q_q3
            replace q_q4 := (hbx.cell (show (⟨w.heap.size + 1, 4, none⟩ : Addr).block < _ from World.block_lt_of_cell? _ _ q_q4)).trans q_q4
            replace q_x0 := (hbx.cell (show (⟨w.heap.size + 1 + 1, 0, none⟩ : Addr).block < _ from World.block_lt_of_cell? _ _ q_x0)).trans q_x0
            replace q_x1 := (hbx.cell (show (⟨w.heap.size + 1 + 1, 1, none⟩ : Addr).block < _ from World.block_lt_of_cell? _ _ q_x1)).trans q_x1
            replace q_x2 := (hbx.cell (show (⟨w.heap.size + 1 + 1, 2, none⟩ : Addr).block < _ from World.block_lt_of_cell? _ _ q_x2)).trans q_x2
            replace q_x3 := (hbx.cell (show (⟨w.heap.size + 1 + 1, 3, none⟩ : Addr).block < _ from World.block_lt_of_cell? _ _ q_x3)).trans q_x3
            replace q_x4 := (hbx.cell (show (⟨w.heap.size + 1 + 1, 4, none⟩ : Addr).block < _ from World.block_lt_of_cell? _ _ q_x4)).trans q_x4
            replace q_x5 := (hbx.cell (show (⟨w.heap.size + 1 + 1, 5, none⟩ : Addr).block < _ from World.block_lt_of_cell? _ _ q_x5)).trans q_x5
            replace HRp := Lib.hid (ReadP.up HRp.out hbx)
            replace HB := Lib.hid (HB.out.trans (hbx.mono HB.out.size)); clear hbx hb
            cases e6 : chB bo g with
            | false =>
              have He6 := Lib.hid e6; clear e6
              go_wp2_with fail
              go_ret
              exact ⟨ret_iq (by unfold rsV dgV; rw [if_pos He1.out, if_pos He2.out, if_pos He3.out, if_pos He4.out, if_neg (by rw [He5.out]; exact Bool.false_ne_true), if_neg (by rw [He6.out]; exact Bool.false_ne_true)]), HB.out⟩
            | true =>
              have He6 := Lib.hid e6; clear e6
              go_wp2_with fail
              go_ret
              exact ⟨ret_iq (by unfold rsV dgV; rw [if_pos He1.out, if_pos He2.out, if_pos He3.out, if_pos He4.out, if_neg (by rw [He5.out]; exact Bool.false_ne_true), if_pos He6.out]), HB.out⟩
          | true =>
            have He5 := Lib.hid e5; clear e5
            cases sh with
            | false =>
              go_wp2_with fail
              go_ret
              exact ⟨ret_iq (by unfold rsV; rw [if_pos He1.out, if_pos He2.out, if_pos He3.out, if_pos He4.out, if_pos He5.out, if_neg Bool.false_ne_true]), HB.out⟩
            | true =>
              go_wp2_with fail
              refine (chk_impl bo g _ hl (HT.out _ HB.out)).mono ?_
              rintro e w5 ⟨rfl, hb⟩
              have hbx := hb
              replace q_p0 := (hbx.cell (show (⟨w.heap.size, 0, none⟩ : Addr).block < _ from World.block_lt_of_cell? _ _ q_p0)).trans q_p0
              replace q_p1 := (hbx.cell (show (⟨w.heap.size, 1, none⟩ : Addr).block < _ from World.block_lt_of_cell? _ _ q_p1)).trans q_p1
              replace q_p2 := (hbx.cell (show (⟨w.heap.size, 2, none⟩ : Addr).block < _ from World.block_lt_of_cell? _ _ q_p2)).trans q_p2
              replace q_p3 := (hbx.cell (show (⟨w.heap.size, 3, none⟩ : Addr).block < _ from World.block_lt_of_cell? _ _ q_p3)).trans q_p3
              replace q_p4 := (hbx.cell (show (⟨w.heap.size, 4, none⟩ : Addr).block < _ from World.block_lt_of_cell? _ _ q_p4)).trans q_p4
              replace q_q0 := (hbx.cell (show (⟨w.heap.size + 1, 0, none⟩ : Addr).block < _ from World.block_lt_of_cell? _ _ q_q0)).trans q_q0
              replace q_q1 := (hbx.cell (show (⟨w.heap.size + 1, 1, none⟩ : Addr).block < _ from World.block_lt_of_cell? _ _ q_q1)).trans q_q1
              replace q_q2 := (hbx.cell (show (⟨w.heap.size + 1, 2, none⟩ : Addr).block < _ from World.block_lt_of_cell? _ _ q_q2)).trans q_q2
              replace q_q3 := (hbx.cell (show (⟨w.heap.size + 1, 3, none⟩ : Addr).block < _ from World.block_lt_of_cell? _ _ q_q3)).trans q_q3
              replace q_q4 := (hbx.cell (show (⟨w.heap.size + 1, 4, none⟩ : Addr).block < _ from World.block_lt_of_cell? _ _ q_q4)).trans q_q4
              replace q_x0 := (hbx.cell (show (⟨w.heap.size + 1 + 1, 0, none⟩ : Addr).block < _ from World.block_lt_of_cell? _ _ q_x0)).trans q_x0
              replace q_x1 := (hbx.cell (show (⟨w.heap.size + 1 + 1, 1, none⟩ : Addr).block < _ from World.block_lt_of_cell? _ _ q_x1)).trans q_x1
              replace q_x2 := (hbx.cell (show (⟨w.heap.size + 1 + 1, 2, none⟩ : Addr).block < _ from World.block_lt_of_cell? _ _ q_x2)).trans q_x2
              replace q_x3 := (hbx.cell (show (⟨w.heap.size + 1 + 1, 3, none⟩ : Addr).block < _ from World.block_lt_of_cell? _ _ q_x3)).trans q_x3
              replace q_x4 := (hbx.cell (show (⟨w.heap.size + 1 + 1, 4, none⟩ : Addr).block < _ from World.block_lt_of_cell? _ _ q_x4)).trans q_x4
              replace q_x5 := (hbx.cell (show (⟨w.heap.size + 1 + 1, 5, none⟩ : Addr).block < _ from World.block_lt_of_cell? _ _ q_x5)).trans q_x5
              replace HRp := Lib.hid (ReadP.up HRp.out hbx)
              replace HB := Lib.hid (HB.out.trans (hbx.mono HB.out.size)); clear hbx hb
              cases e6 : chB bo g with
              | false =>
                have He6 := Lib.hid e6; clear e6
                go_wp2_with fail
                go_ret
                exact ⟨ret_iq (by unfold rsV dgV; rw [if_pos He1.out, if_pos He2.out, if_pos He3.out, if_pos He4.out, if_pos He5.out, if_pos rfl, if_neg (by rw [He6.out]; exact Bool.false_ne_true)]), HB.out⟩
              | true =>
                have He6 := Lib.hid e6; clear e6
                go_wp2_with fail
                go_ret
                exact ⟨ret_iq (by unfold rsV dgV; rw [if_pos He1.out, if_pos He2.out, if_pos He3.out, if_pos He4.out, if_pos He5.out, if_pos rfl, if_pos He6.out]), HB.out⟩
      · have He3 := Lib.hid e3
        have x1 : (st == 200) = false := beq_eq_false_iff_ne.2 e3
        have x2 : (st != 200) = true := by rw [bne, x1]; rfl
        clear e3
        go_wp2_with fail
        go_ret
        exact ⟨ret_iq (by unfold rsV; rw [if_pos He1.out, if_pos He2.out, if_neg He3.out]), HB.out⟩
  · rw [e1]; have He1 := Lib.hid e1; clear e1
    go_wp2_with fail
    go_ret
    exact ⟨ret_iq (by unfold rsV; rw [if_neg (by rw [He1.out]; omega)]), HB.out⟩

set_option maxRecDepth 100000 in
set_option maxHeartbeats 2000000 in
theorem crs_impl (set : Bool) (scr sty img : List ByteArray) (non : ByteArray) (a1 : Option Addr) (n1 c1 : Nat) (a2 : Option Addr) (n2 c2 : Nat) (a3 : Option Addr) (n3 c3 : Nat) (kd : Int) (h p f g : ByteArray) (st xk : Int) (bo : ByteArray) (ag : Int) (sh : Bool) (po : ByteArray) (ok : RqOk h p f g) (hz : po.size ≤ 1048576) (hl : bo.size ≤ 1048576) (w : World) (hr : ReadP w.heap.size w (.slice a1 n1 c1) (.slice a2 n2 c2) (.slice a3 n3 c3) ⟨set, scr, sty, img, non⟩) (hm : Max0 w) (htab : Lib.TabIs Tryz.prog w "internal/strconv.uint64pow10" .u64 Lib.pow10Tab) :
    Calls Tryz.prog 12 #[.agg #[.bool set, .slice a1 n1 c1, .slice a2 n2 c2, .slice a3 n3 c3, .string non], .agg #[.int .i64 kd, .string h, .string p, .string f, .string g], .agg #[.int .i64 st, .int .i64 xk, .string bo, .int .i64 ag, .bool sh, .string po]] w fun e w' => e = .returned (.int .i64 (rsV (⟨set, scr, sty, img, non⟩ : Pol) kd h p f g st xk bo ag sh po)) ∧ Below w.heap.size w w' := by
  have HRp := Lib.hid hr; clear hr
  have HM := Lib.hid hm; have HT := Lib.hid (Lib.tabBelow_of_tabIs htab); clear hm htab
  obtain ⟨W0, hW⟩ : ∃ W, (((w.alloc (.cells #[.bool set, .slice a1 n1 c1, .slice a2 n2 c2, .slice a3 n3 c3, .string non] 26)).alloc (.cells #[.int .i64 kd, .string h, .string p, .string f, .string g] 30)).alloc (.cells #[.int .i64 st, .int .i64 xk, .string bo, .int .i64 ag, .bool sh, .string po] 32)) = W := ⟨_, rfl⟩
  have HB := Lib.hid (show Below w.heap.size w W0 by rw [← hW]; exact ((((Below.refl w.heap.size w).alloc (by first | (simp; done) | (simp; omega)) _).alloc (by first | (simp; done) | (simp; omega)) _).alloc (by first | (simp; done) | (simp; omega)) _))
  have q_p0 : W0.cell? ⟨w.heap.size, 0, none⟩ = some (.bool set) := by rw [← hW]; exact box_cell (box3_0 _ _ _ _) (j := 0) rfl
  have q_p1 : W0.cell? ⟨w.heap.size, 1, none⟩ = some (.slice a1 n1 c1) := by rw [← hW]; exact box_cell (box3_0 _ _ _ _) (j := 1) rfl
  have q_p2 : W0.cell? ⟨w.heap.size, 2, none⟩ = some (.slice a2 n2 c2) := by rw [← hW]; exact box_cell (box3_0 _ _ _ _) (j := 2) rfl
  have q_p3 : W0.cell? ⟨w.heap.size, 3, none⟩ = some (.slice a3 n3 c3) := by rw [← hW]; exact box_cell (box3_0 _ _ _ _) (j := 3) rfl
  have q_p4 : W0.cell? ⟨w.heap.size, 4, none⟩ = some (.string non) := by rw [← hW]; exact box_cell (box3_0 _ _ _ _) (j := 4) rfl
  have q_q0 : W0.cell? ⟨w.heap.size + 1, 0, none⟩ = some (.int .i64 kd) := by rw [← hW]; exact box_cell (box3_1 _ _ _ _) (j := 0) rfl
  have q_q1 : W0.cell? ⟨w.heap.size + 1, 1, none⟩ = some (.string h) := by rw [← hW]; exact box_cell (box3_1 _ _ _ _) (j := 1) rfl
  have q_q2 : W0.cell? ⟨w.heap.size + 1, 2, none⟩ = some (.string p) := by rw [← hW]; exact box_cell (box3_1 _ _ _ _) (j := 2) rfl
  have q_q3 : W0.cell? ⟨w.heap.size + 1, 3, none⟩ = some (.string f) := by rw [← hW]; exact box_cell (box3_1 _ _ _ _) (j := 3) rfl
  have q_q4 : W0.cell? ⟨w.heap.size + 1, 4, none⟩ = some (.string g) := by rw [← hW]; exact box_cell (box3_1 _ _ _ _) (j := 4) rfl
  have q_x0 : W0.cell? ⟨w.heap.size + 1 + 1, 0, none⟩ = some (.int .i64 st) := by rw [← hW]; exact box_cell (box3_2 _ _ _ _) (j := 0) rfl
  have q_x1 : W0.cell? ⟨w.heap.size + 1 + 1, 1, none⟩ = some (.int .i64 xk) := by rw [← hW]; exact box_cell (box3_2 _ _ _ _) (j := 1) rfl
  have q_x2 : W0.cell? ⟨w.heap.size + 1 + 1, 2, none⟩ = some (.string bo) := by rw [← hW]; exact box_cell (box3_2 _ _ _ _) (j := 2) rfl
  have q_x3 : W0.cell? ⟨w.heap.size + 1 + 1, 3, none⟩ = some (.int .i64 ag) := by rw [← hW]; exact box_cell (box3_2 _ _ _ _) (j := 3) rfl
  have q_x4 : W0.cell? ⟨w.heap.size + 1 + 1, 4, none⟩ = some (.bool sh) := by rw [← hW]; exact box_cell (box3_2 _ _ _ _) (j := 4) rfl
  have q_x5 : W0.cell? ⟨w.heap.size + 1 + 1, 5, none⟩ = some (.string po) := by rw [← hW]; exact box_cell (box3_2 _ _ _ _) (j := 5) rfl
  replace HRp := Lib.hid (ReadP.up HRp.out HB.out)
  have HW := Lib.hid hW; clear hW
  go_enter Tryz.func12, Tryz.ntmps12
  go_wp2_with fail
  rw [HW.out]
  refine (vf_impl set scr sty img non a1 n1 c1 a2 n2 c2 a3 n3 c3 kd h p f g st xk bo ag sh po ok hz hl _ HRp.out (HM.out.on HB.out) (HT.out _ HB.out)).mono ?_
  rintro e w1 ⟨rfl, hb⟩
  have hbx := hb
  replace q_p0 := (hbx.cell (show (⟨w.heap.size, 0, none⟩ : Addr).block < _ from World.block_lt_of_cell? _ _ q_p0)).trans q_p0
  replace q_p1 := (hbx.cell (show (⟨w.heap.size, 1, none⟩ : Addr).block < _ from World.block_lt_of_cell? _ _ q_p1)).trans q_p1
  replace q_p2 := (hbx.cell (show (⟨w.heap.size, 2, none⟩ : Addr).block < _ from World.block_lt_of_cell? _ _ q_p2)).trans q_p2
  replace q_p3 := (hbx.cell (show (⟨w.heap.size, 3, none⟩ : Addr).block < _ from World.block_lt_of_cell? _ _ q_p3)).trans q_p3
  replace q_p4 := (hbx.cell (show (⟨w.heap.size, 4, none⟩ : Addr).block < _ from World.block_lt_of_cell? _ _ q_p4)).trans q_p4
  replace q_q0 := (hbx.cell (show (⟨w.heap.size + 1, 0, none⟩ : Addr).block < _ from World.block_lt_of_cell? _ _ q_q0)).trans q_q0
  replace q_q1 := (hbx.cell (show (⟨w.heap.size + 1, 1, none⟩ : Addr).block < _ from World.block_lt_of_cell? _ _ q_q1)).trans q_q1
  replace q_q2 := (hbx.cell (show (⟨w.heap.size + 1, 2, none⟩ : Addr).block < _ from World.block_lt_of_cell? _ _ q_q2)).trans q_q2
  replace q_q3 := (hbx.cell (show (⟨w.heap.size + 1, 3, none⟩ : Addr).block < _ from World.block_lt_of_cell? _ _ q_q3)).trans q_q3
  replace q_q4 := (hbx.cell (show (⟨w.heap.size + 1, 4, none⟩ : Addr).block < _ from World.block_lt_of_cell? _ _ q_q4)).trans q_q4
  replace q_x0 := (hbx.cell (show (⟨w.heap.size + 1 + 1, 0, none⟩ : Addr).block < _ from World.block_lt_of_cell? _ _ q_x0)).trans q_x0
  replace q_x1 := (hbx.cell (show (⟨w.heap.size + 1 + 1, 1, none⟩ : Addr).block < _ from World.block_lt_of_cell? _ _ q_x1)).trans q_x1
  replace q_x2 := (hbx.cell (show (⟨w.heap.size + 1 + 1, 2, none⟩ : Addr).block < _ from World.block_lt_of_cell? _ _ q_x2)).trans q_x2
  replace q_x3 := (hbx.cell (show (⟨w.heap.size + 1 + 1, 3, none⟩ : Addr).block < _ from World.block_lt_of_cell? _ _ q_x3)).trans q_x3
  replace q_x4 := (hbx.cell (show (⟨w.heap.size + 1 + 1, 4, none⟩ : Addr).block < _ from World.block_lt_of_cell? _ _ q_x4)).trans q_x4
  replace q_x5 := (hbx.cell (show (⟨w.heap.size + 1 + 1, 5, none⟩ : Addr).block < _ from World.block_lt_of_cell? _ _ q_x5)).trans q_x5
  replace HRp := Lib.hid (ReadP.up HRp.out hbx)
  replace HB := Lib.hid (HB.out.trans (hbx.mono HB.out.size)); clear hbx hb
  go_wp2_with fail
  go_ret
  exact ⟨rfl, HB.out⟩

/-- UsableBody. -/
def ubS (v : Int) (bo : ByteArray) : ByteArray := if v = 1 then bo else ⟨#[]⟩
set_option maxRecDepth 100000 in
set_option maxHeartbeats 2000000 in
theorem ub_spec (set : Bool) (scr sty img : List ByteArray) (non : ByteArray) (a1 : Option Addr) (n1 c1 : Nat) (a2 : Option Addr) (n2 c2 : Nat) (a3 : Option Addr) (n3 c3 : Nat) (kd : Int) (h p f g : ByteArray) (st xk : Int) (bo : ByteArray) (ag : Int) (sh : Bool) (po : ByteArray) (ok : RqOk h p f g) (hz : po.size ≤ 1048576) (hl : bo.size ≤ 1048576) (w : World) (hr : ReadP w.heap.size w (.slice a1 n1 c1) (.slice a2 n2 c2) (.slice a3 n3 c3) ⟨set, scr, sty, img, non⟩) :
    Calls Tryz.prog 33 #[.agg #[.bool set, .slice a1 n1 c1, .slice a2 n2 c2, .slice a3 n3 c3, .string non], .agg #[.int .i64 kd, .string h, .string p, .string f, .string g], .agg #[.int .i64 st, .int .i64 xk, .string bo, .int .i64 ag, .bool sh, .string po]] w fun e w' => e = .returned (.tuple #[.string (ubS (rsV (⟨set, scr, sty, img, non⟩ : Pol) kd h p f g st xk bo ag sh po) bo), .bool (decide (rsV (⟨set, scr, sty, img, non⟩ : Pol) kd h p f g st xk bo ag sh po = 1))]) ∧ Below w.heap.size w w' := by
  have HRp := Lib.hid hr; clear hr
  obtain ⟨W0, hW⟩ : ∃ W, (((w.alloc (.cells #[.bool set, .slice a1 n1 c1, .slice a2 n2 c2, .slice a3 n3 c3, .string non] 26)).alloc (.cells #[.int .i64 kd, .string h, .string p, .string f, .string g] 30)).alloc (.cells #[.int .i64 st, .int .i64 xk, .string bo, .int .i64 ag, .bool sh, .string po] 32)) = W := ⟨_, rfl⟩
  have HB := Lib.hid (show Below w.heap.size w W0 by rw [← hW]; exact ((((Below.refl w.heap.size w).alloc (by first | (simp; done) | (simp; omega)) _).alloc (by first | (simp; done) | (simp; omega)) _).alloc (by first | (simp; done) | (simp; omega)) _))
  have q_p0 : W0.cell? ⟨w.heap.size, 0, none⟩ = some (.bool set) := by rw [← hW]; exact box_cell (box3_0 _ _ _ _) (j := 0) rfl
  have q_p1 : W0.cell? ⟨w.heap.size, 1, none⟩ = some (.slice a1 n1 c1) := by rw [← hW]; exact box_cell (box3_0 _ _ _ _) (j := 1) rfl
  have q_p2 : W0.cell? ⟨w.heap.size, 2, none⟩ = some (.slice a2 n2 c2) := by rw [← hW]; exact box_cell (box3_0 _ _ _ _) (j := 2) rfl
  have q_p3 : W0.cell? ⟨w.heap.size, 3, none⟩ = some (.slice a3 n3 c3) := by rw [← hW]; exact box_cell (box3_0 _ _ _ _) (j := 3) rfl
  have q_p4 : W0.cell? ⟨w.heap.size, 4, none⟩ = some (.string non) := by rw [← hW]; exact box_cell (box3_0 _ _ _ _) (j := 4) rfl
  have q_q0 : W0.cell? ⟨w.heap.size + 1, 0, none⟩ = some (.int .i64 kd) := by rw [← hW]; exact box_cell (box3_1 _ _ _ _) (j := 0) rfl
  have q_q1 : W0.cell? ⟨w.heap.size + 1, 1, none⟩ = some (.string h) := by rw [← hW]; exact box_cell (box3_1 _ _ _ _) (j := 1) rfl
  have q_q2 : W0.cell? ⟨w.heap.size + 1, 2, none⟩ = some (.string p) := by rw [← hW]; exact box_cell (box3_1 _ _ _ _) (j := 2) rfl
  have q_q3 : W0.cell? ⟨w.heap.size + 1, 3, none⟩ = some (.string f) := by rw [← hW]; exact box_cell (box3_1 _ _ _ _) (j := 3) rfl
  have q_q4 : W0.cell? ⟨w.heap.size + 1, 4, none⟩ = some (.string g) := by rw [← hW]; exact box_cell (box3_1 _ _ _ _) (j := 4) rfl
  have q_x0 : W0.cell? ⟨w.heap.size + 1 + 1, 0, none⟩ = some (.int .i64 st) := by rw [← hW]; exact box_cell (box3_2 _ _ _ _) (j := 0) rfl
  have q_x1 : W0.cell? ⟨w.heap.size + 1 + 1, 1, none⟩ = some (.int .i64 xk) := by rw [← hW]; exact box_cell (box3_2 _ _ _ _) (j := 1) rfl
  have q_x2 : W0.cell? ⟨w.heap.size + 1 + 1, 2, none⟩ = some (.string bo) := by rw [← hW]; exact box_cell (box3_2 _ _ _ _) (j := 2) rfl
  have q_x3 : W0.cell? ⟨w.heap.size + 1 + 1, 3, none⟩ = some (.int .i64 ag) := by rw [← hW]; exact box_cell (box3_2 _ _ _ _) (j := 3) rfl
  have q_x4 : W0.cell? ⟨w.heap.size + 1 + 1, 4, none⟩ = some (.bool sh) := by rw [← hW]; exact box_cell (box3_2 _ _ _ _) (j := 4) rfl
  have q_x5 : W0.cell? ⟨w.heap.size + 1 + 1, 5, none⟩ = some (.string po) := by rw [← hW]; exact box_cell (box3_2 _ _ _ _) (j := 5) rfl
  replace HRp := Lib.hid (ReadP.up HRp.out HB.out)
  have HW := Lib.hid hW; clear hW
  obtain ⟨V, hV⟩ : ∃ V, rsV (⟨set, scr, sty, img, non⟩ : Pol) kd h p f g st xk bo ag sh po = V := ⟨_, rfl⟩
  have hrg := rsV_rng (⟨set, scr, sty, img, non⟩ : Pol) kd h p f g st xk bo ag sh po; rw [hV] at hrg
  have HC := Lib.hid (fun (X : World) (hx : ReadP X.heap.size X (.slice a1 n1 c1) (.slice a2 n2 c2) (.slice a3 n3 c3) (⟨set, scr, sty, img, non⟩ : Pol)) => hV ▸ crs_spec set scr sty img non a1 n1 c1 a2 n2 c2 a3 n3 c3 kd h p f g st xk bo ag sh po ok hz hl X hx); clear hz hl ok
  rw [hV]
  clear hV
  go_enter Tryz.func33, Tryz.ntmps33
  go_wp2_with fail
  rw [HW.out]
  refine (HC.out _ HRp.out).mono ?_
  rintro e w1 ⟨rfl, hb⟩
  have hbx := hb
  replace q_p0 := (hbx.cell (show (⟨w.heap.size, 0, none⟩ : Addr).block < _ from World.block_lt_of_cell? _ _ q_p0)).trans q_p0
  replace q_p1 := (hbx.cell (show (⟨w.heap.size, 1, none⟩ : Addr).block < _ from World.block_lt_of_cell? _ _ q_p1)).trans q_p1
  replace q_p2 := (hbx.cell (show (⟨w.heap.size, 2, none⟩ : Addr).block < _ from World.block_lt_of_cell? _ _ q_p2)).trans q_p2
  replace q_p3 := (hbx.cell (show (⟨w.heap.size, 3, none⟩ : Addr).block < _ from World.block_lt_of_cell? _ _ q_p3)).trans q_p3
  replace q_p4 := (hbx.cell (show (⟨w.heap.size, 4, none⟩ : Addr).block < _ from World.block_lt_of_cell? _ _ q_p4)).trans q_p4
  replace q_q0 := (hbx.cell (show (⟨w.heap.size + 1, 0, none⟩ : Addr).block < _ from World.block_lt_of_cell? _ _ q_q0)).trans q_q0
  replace q_q1 := (hbx.cell (show (⟨w.heap.size + 1, 1, none⟩ : Addr).block < _ from World.block_lt_of_cell? _ _ q_q1)).trans q_q1
  replace q_q2 := (hbx.cell (show (⟨w.heap.size + 1, 2, none⟩ : Addr).block < _ from World.block_lt_of_cell? _ _ q_q2)).trans q_q2
  replace q_q3 := (hbx.cell (show (⟨w.heap.size + 1, 3, none⟩ : Addr).block < _ from World.block_lt_of_cell? _ _ q_q3)).trans q_q3
  replace q_q4 := (hbx.cell (show (⟨w.heap.size + 1, 4, none⟩ : Addr).block < _ from World.block_lt_of_cell? _ _ q_q4)).trans q_q4
  replace q_x0 := (hbx.cell (show (⟨w.heap.size + 1 + 1, 0, none⟩ : Addr).block < _ from World.block_lt_of_cell? _ _ q_x0)).trans q_x0
  replace q_x1 := (hbx.cell (show (⟨w.heap.size + 1 + 1, 1, none⟩ : Addr).block < _ from World.block_lt_of_cell? _ _ q_x1)).trans q_x1
  replace q_x2 := (hbx.cell (show (⟨w.heap.size + 1 + 1, 2, none⟩ : Addr).block < _ from World.block_lt_of_cell? _ _ q_x2)).trans q_x2
  replace q_x3 := (hbx.cell (show (⟨w.heap.size + 1 + 1, 3, none⟩ : Addr).block < _ from World.block_lt_of_cell? _ _ q_x3)).trans q_x3
  replace q_x4 := (hbx.cell (show (⟨w.heap.size + 1 + 1, 4, none⟩ : Addr).block < _ from World.block_lt_of_cell? _ _ q_x4)).trans q_x4
  replace q_x5 := (hbx.cell (show (⟨w.heap.size + 1 + 1, 5, none⟩ : Addr).block < _ from World.block_lt_of_cell? _ _ q_x5)).trans q_x5
  replace HRp := Lib.hid (ReadP.up HRp.out hbx)
  replace HB := Lib.hid (HB.out.trans (hbx.mono HB.out.size)); clear hbx hb
  by_cases e1 : V = 1
  · have He1 := Lib.hid e1
    have x1 : (V == 1) = true := beq_iff_eq.2 e1
    have x2 : (V != 1) = false := by rw [bne, x1]; rfl
    clear e1
    go_wp2_with fail
    refine bodyPost_ret (v := .tuple #[.string bo, .bool true]) (by simp [results, Tryz.results33, go_sem]) rfl ⟨by unfold ubS; simp [He1.out], HB.out⟩
  · have He1 := Lib.hid e1
    have x1 : (V == 1) = false := beq_eq_false_iff_ne.2 e1
    have x2 : (V != 1) = true := by rw [bne, x1]; rfl
    clear e1
    go_wp2_with fail
    refine bodyPost_ret (v := .tuple #[.string ⟨#[]⟩, .bool false]) (by simp [results, Tryz.results33, go_sem]) rfl ⟨by unfold ubS; simp [He1.out], HB.out⟩

set_option maxRecDepth 100000 in
set_option maxHeartbeats 2000000 in
theorem ub_impl (set : Bool) (scr sty img : List ByteArray) (non : ByteArray) (a1 : Option Addr) (n1 c1 : Nat) (a2 : Option Addr) (n2 c2 : Nat) (a3 : Option Addr) (n3 c3 : Nat) (kd : Int) (h p f g : ByteArray) (st xk : Int) (bo : ByteArray) (ag : Int) (sh : Bool) (po : ByteArray) (ok : RqOk h p f g) (hz : po.size ≤ 1048576) (hl : bo.size ≤ 1048576) (w : World) (hr : ReadP w.heap.size w (.slice a1 n1 c1) (.slice a2 n2 c2) (.slice a3 n3 c3) ⟨set, scr, sty, img, non⟩) (hm : Max0 w) (htab : Lib.TabIs Tryz.prog w "internal/strconv.uint64pow10" .u64 Lib.pow10Tab) :
    Calls Tryz.prog 13 #[.agg #[.bool set, .slice a1 n1 c1, .slice a2 n2 c2, .slice a3 n3 c3, .string non], .agg #[.int .i64 kd, .string h, .string p, .string f, .string g], .agg #[.int .i64 st, .int .i64 xk, .string bo, .int .i64 ag, .bool sh, .string po]] w fun e w' => e = .returned (.tuple #[.string (ubS (rsV (⟨set, scr, sty, img, non⟩ : Pol) kd h p f g st xk bo ag sh po) bo), .bool (decide (rsV (⟨set, scr, sty, img, non⟩ : Pol) kd h p f g st xk bo ag sh po = 1))]) ∧ Below w.heap.size w w' := by
  have HRp := Lib.hid hr; clear hr
  have HM := Lib.hid hm; have HT := Lib.hid (Lib.tabBelow_of_tabIs htab); clear hm htab
  obtain ⟨W0, hW⟩ : ∃ W, (((w.alloc (.cells #[.bool set, .slice a1 n1 c1, .slice a2 n2 c2, .slice a3 n3 c3, .string non] 26)).alloc (.cells #[.int .i64 kd, .string h, .string p, .string f, .string g] 30)).alloc (.cells #[.int .i64 st, .int .i64 xk, .string bo, .int .i64 ag, .bool sh, .string po] 32)) = W := ⟨_, rfl⟩
  have HB := Lib.hid (show Below w.heap.size w W0 by rw [← hW]; exact ((((Below.refl w.heap.size w).alloc (by first | (simp; done) | (simp; omega)) _).alloc (by first | (simp; done) | (simp; omega)) _).alloc (by first | (simp; done) | (simp; omega)) _))
  have q_p0 : W0.cell? ⟨w.heap.size, 0, none⟩ = some (.bool set) := by rw [← hW]; exact box_cell (box3_0 _ _ _ _) (j := 0) rfl
  have q_p1 : W0.cell? ⟨w.heap.size, 1, none⟩ = some (.slice a1 n1 c1) := by rw [← hW]; exact box_cell (box3_0 _ _ _ _) (j := 1) rfl
  have q_p2 : W0.cell? ⟨w.heap.size, 2, none⟩ = some (.slice a2 n2 c2) := by rw [← hW]; exact box_cell (box3_0 _ _ _ _) (j := 2) rfl
  have q_p3 : W0.cell? ⟨w.heap.size, 3, none⟩ = some (.slice a3 n3 c3) := by rw [← hW]; exact box_cell (box3_0 _ _ _ _) (j := 3) rfl
  have q_p4 : W0.cell? ⟨w.heap.size, 4, none⟩ = some (.string non) := by rw [← hW]; exact box_cell (box3_0 _ _ _ _) (j := 4) rfl
  have q_q0 : W0.cell? ⟨w.heap.size + 1, 0, none⟩ = some (.int .i64 kd) := by rw [← hW]; exact box_cell (box3_1 _ _ _ _) (j := 0) rfl
  have q_q1 : W0.cell? ⟨w.heap.size + 1, 1, none⟩ = some (.string h) := by rw [← hW]; exact box_cell (box3_1 _ _ _ _) (j := 1) rfl
  have q_q2 : W0.cell? ⟨w.heap.size + 1, 2, none⟩ = some (.string p) := by rw [← hW]; exact box_cell (box3_1 _ _ _ _) (j := 2) rfl
  have q_q3 : W0.cell? ⟨w.heap.size + 1, 3, none⟩ = some (.string f) := by rw [← hW]; exact box_cell (box3_1 _ _ _ _) (j := 3) rfl
  have q_q4 : W0.cell? ⟨w.heap.size + 1, 4, none⟩ = some (.string g) := by rw [← hW]; exact box_cell (box3_1 _ _ _ _) (j := 4) rfl
  have q_x0 : W0.cell? ⟨w.heap.size + 1 + 1, 0, none⟩ = some (.int .i64 st) := by rw [← hW]; exact box_cell (box3_2 _ _ _ _) (j := 0) rfl
  have q_x1 : W0.cell? ⟨w.heap.size + 1 + 1, 1, none⟩ = some (.int .i64 xk) := by rw [← hW]; exact box_cell (box3_2 _ _ _ _) (j := 1) rfl
  have q_x2 : W0.cell? ⟨w.heap.size + 1 + 1, 2, none⟩ = some (.string bo) := by rw [← hW]; exact box_cell (box3_2 _ _ _ _) (j := 2) rfl
  have q_x3 : W0.cell? ⟨w.heap.size + 1 + 1, 3, none⟩ = some (.int .i64 ag) := by rw [← hW]; exact box_cell (box3_2 _ _ _ _) (j := 3) rfl
  have q_x4 : W0.cell? ⟨w.heap.size + 1 + 1, 4, none⟩ = some (.bool sh) := by rw [← hW]; exact box_cell (box3_2 _ _ _ _) (j := 4) rfl
  have q_x5 : W0.cell? ⟨w.heap.size + 1 + 1, 5, none⟩ = some (.string po) := by rw [← hW]; exact box_cell (box3_2 _ _ _ _) (j := 5) rfl
  replace HRp := Lib.hid (ReadP.up HRp.out HB.out)
  have HW := Lib.hid hW; clear hW
  obtain ⟨V, hV⟩ : ∃ V, rsV (⟨set, scr, sty, img, non⟩ : Pol) kd h p f g st xk bo ag sh po = V := ⟨_, rfl⟩
  have hrg := rsV_rng (⟨set, scr, sty, img, non⟩ : Pol) kd h p f g st xk bo ag sh po; rw [hV] at hrg
  have HC := Lib.hid (fun (X : World) (hx : ReadP X.heap.size X (.slice a1 n1 c1) (.slice a2 n2 c2) (.slice a3 n3 c3) (⟨set, scr, sty, img, non⟩ : Pol)) (m0 : Max0 X) (t0 : Lib.TabIs Tryz.prog X "internal/strconv.uint64pow10" .u64 Lib.pow10Tab) => hV ▸ crs_impl set scr sty img non a1 n1 c1 a2 n2 c2 a3 n3 c3 kd h p f g st xk bo ag sh po ok hz hl X hx m0 t0); clear hz hl ok
  rw [hV]
  clear hV
  go_enter Tryz.func13, Tryz.ntmps13
  go_wp2_with fail
  rw [HW.out]
  refine (HC.out _ HRp.out (HM.out.on HB.out) (HT.out _ HB.out)).mono ?_
  rintro e w1 ⟨rfl, hb⟩
  have hbx := hb
  replace q_p0 := (hbx.cell (show (⟨w.heap.size, 0, none⟩ : Addr).block < _ from World.block_lt_of_cell? _ _ q_p0)).trans q_p0
  replace q_p1 := (hbx.cell (show (⟨w.heap.size, 1, none⟩ : Addr).block < _ from World.block_lt_of_cell? _ _ q_p1)).trans q_p1
  replace q_p2 := (hbx.cell (show (⟨w.heap.size, 2, none⟩ : Addr).block < _ from World.block_lt_of_cell? _ _ q_p2)).trans q_p2
  replace q_p3 := (hbx.cell (show (⟨w.heap.size, 3, none⟩ : Addr).block < _ from World.block_lt_of_cell? _ _ q_p3)).trans q_p3
  replace q_p4 := (hbx.cell (show (⟨w.heap.size, 4, none⟩ : Addr).block < _ from World.block_lt_of_cell? _ _ q_p4)).trans q_p4
  replace q_q0 := (hbx.cell (show (⟨w.heap.size + 1, 0, none⟩ : Addr).block < _ from World.block_lt_of_cell? _ _ q_q0)).trans q_q0
  replace q_q1 := (hbx.cell (show (⟨w.heap.size + 1, 1, none⟩ : Addr).block < _ from World.block_lt_of_cell? _ _ q_q1)).trans q_q1
  replace q_q2 := (hbx.cell (show (⟨w.heap.size + 1, 2, none⟩ : Addr).block < _ from World.block_lt_of_cell? _ _ q_q2)).trans q_q2
  replace q_q3 := (hbx.cell (show (⟨w.heap.size + 1, 3, none⟩ : Addr).block < _ from World.block_lt_of_cell? _ _ q_q3)).trans q_q3
  replace q_q4 := (hbx.cell (show (⟨w.heap.size + 1, 4, none⟩ : Addr).block < _ from World.block_lt_of_cell? _ _ q_q4)).trans q_q4
  replace q_x0 := (hbx.cell (show (⟨w.heap.size + 1 + 1, 0, none⟩ : Addr).block < _ from World.block_lt_of_cell? _ _ q_x0)).trans q_x0
  replace q_x1 := (hbx.cell (show (⟨w.heap.size + 1 + 1, 1, none⟩ : Addr).block < _ from World.block_lt_of_cell? _ _ q_x1)).trans q_x1
  replace q_x2 := (hbx.cell (show (⟨w.heap.size + 1 + 1, 2, none⟩ : Addr).block < _ from World.block_lt_of_cell? _ _ q_x2)).trans q_x2
  replace q_x3 := (hbx.cell (show (⟨w.heap.size + 1 + 1, 3, none⟩ : Addr).block < _ from World.block_lt_of_cell? _ _ q_x3)).trans q_x3
  replace q_x4 := (hbx.cell (show (⟨w.heap.size + 1 + 1, 4, none⟩ : Addr).block < _ from World.block_lt_of_cell? _ _ q_x4)).trans q_x4
  replace q_x5 := (hbx.cell (show (⟨w.heap.size + 1 + 1, 5, none⟩ : Addr).block < _ from World.block_lt_of_cell? _ _ q_x5)).trans q_x5
  replace HRp := Lib.hid (ReadP.up HRp.out hbx)
  replace HB := Lib.hid (HB.out.trans (hbx.mono HB.out.size)); clear hbx hb
  by_cases e1 : V = 1
  · have He1 := Lib.hid e1
    have x1 : (V == 1) = true := beq_iff_eq.2 e1
    have x2 : (V != 1) = false := by rw [bne, x1]; rfl
    clear e1
    go_wp2_with fail
    refine bodyPost_ret (v := .tuple #[.string bo, .bool true]) (by simp [results, Tryz.results13, go_sem]) rfl ⟨by unfold ubS; simp [He1.out], HB.out⟩
  · have He1 := Lib.hid e1
    have x1 : (V == 1) = false := beq_eq_false_iff_ne.2 e1
    have x2 : (V != 1) = true := by rw [bne, x1]; rfl
    clear e1
    go_wp2_with fail
    refine bodyPost_ret (v := .tuple #[.string ⟨#[]⟩, .bool false]) (by simp [results, Tryz.results13, go_sem]) rfl ⟨by unfold ubS; simp [He1.out], HB.out⟩

end Go.Proofs.YtkjjiinccljhjaaGreatDoor

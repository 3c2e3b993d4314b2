/- Helper contracts: IsRequest and CheckRequest of the program and of the model answer alike. Asked: strings are shorter than 2^63 bytes; the policy's slices read as named. -/
import Derived.Test.YtkjjiinccljhjaaRowQ
import Derived.Test.YtkjjiinccljhjaaAdr
import Derived.Test.YtkjjiinccljhjaaVal
import Derived.Test.YtkjjiinccljhjaaPolA
import Derived.Test.YtkjjiinccljhjaaLawPo
namespace Go.Proofs.Ytkjjiinccljhjaa
open Go.ChangeShapes Go.WideShapes Go.ChangeAt Go.RowKit

/-- IsRequest. -/
def isRq (kd : Int) (h p f g : ByteArray) : Bool := inB kd 1 5 && isAd (h, p) && isNm f && (decide (g.size = 0) || isVal g)
theorem empQ_size (s : ByteArray) : (s.toList == []) = decide (s.size = 0) := by
  rw [ByteArray.toList_eq]
  by_cases h : s.size = 0
  · rw [decide_eq_true h, beq_iff_eq]; exact List.eq_nil_of_length_eq_zero (by rw [size_list]; exact h)
  · rw [decide_eq_false h]
    refine beq_eq_false_iff_ne.2 fun e => h ?_
    rw [← size_list, e]; rfl

set_option maxRecDepth 100000 in
set_option maxHeartbeats 2000000 in
theorem isRq_spec (kd : Int) (h p f g : ByteArray) (ok : RqOk h p f g) (w : World) :
    Calls Try.prog 9 #[.agg #[.int .i64 kd, .string h, .string p, .string f, .string g]] w fun e w' => e = .returned (.bool (isRq kd h p f g)) ∧ Below w.heap.size w w' := by
  obtain ⟨z1, z2, z3, z4⟩ := ok
  obtain ⟨W0, hW⟩ : ∃ W, (w.alloc (.cells #[.int .i64 kd, .string h, .string p, .string f, .string g] 30)) = W := ⟨_, rfl⟩
  have HB := Lib.hid (show Below w.heap.size w W0 by rw [← hW]; exact ((Below.refl w.heap.size w).alloc (by first | (simp; done) | (simp; omega)) _))
  have q_q0 : W0.cell? ⟨w.heap.size, 0, none⟩ = some (.int .i64 kd) := by rw [← hW]; simp
  have q_q1 : W0.cell? ⟨w.heap.size, 1, none⟩ = some (.string h) := by rw [← hW]; simp
  have q_q2 : W0.cell? ⟨w.heap.size, 2, none⟩ = some (.string p) := by rw [← hW]; simp
  have q_q3 : W0.cell? ⟨w.heap.size, 3, none⟩ = some (.string f) := by rw [← hW]; simp
  have q_q4 : W0.cell? ⟨w.heap.size, 4, none⟩ = some (.string g) := by rw [← hW]; simp
  have HW := Lib.hid hW; clear hW
  have HI := Lib.hid (fun X => lin_any kd 1 5 X); have HA := Lib.hid (fun X => isAd_spec h p z1 z2 X); have HN := Lib.hid (fun X => nm_spec f z3 X); have HL := Lib.hid (fun X => val_spec g z4 X)
  obtain ⟨D, hD⟩ : ∃ D, decide (g.size = 0) = D := ⟨_, rfl⟩
  have e4 := empQ_size g; rw [hD] at e4
  have HD := Lib.hid hD; clear hD
  go_enter Try.func9, Try.ntmps9
  go_wp2_with fail
  rw [HW.out]
  refine (HI.out _).mono ?_
  rintro e w1 ⟨rfl, rfl⟩
  cases e1 : inB kd 1 5 with
  | false =>
    have He1 := Lib.hid e1; clear e1
    go_wp2_with fail
    go_ret
    exact ⟨ret_b (by unfold isRq; simp [He1.out]), HB.out⟩
  | true =>
    have He1 := Lib.hid e1; clear e1
    go_wp2_with fail
    refine (HA.out _).mono ?_
    rintro e w2 ⟨rfl, hb⟩
    have hbx := hb
    replace q_q0 := (hbx.cell (show (⟨w.heap.size, 0, none⟩ : Addr).block < _ from World.block_lt_of_cell? _ _ q_q0)).trans q_q0
    replace q_q1 := (hbx.cell (show (⟨w.heap.size, 1, none⟩ : Addr).block < _ from World.block_lt_of_cell? _ _ q_q1)).trans q_q1
    replace q_q2 := (hbx.cell (show (⟨w.heap.size, 2, none⟩ : Addr).block < _ from World.block_lt_of_cell? _ _ q_q2)).trans q_q2
    replace q_q3 := (hbx.cell (show (⟨w.heap.size, 3, none⟩ : Addr).block < _ from World.block_lt_of_cell? _ _ q_q3)).trans q_q3
    replace q_q4 := (hbx.cell (show (⟨w.heap.size, 4, none⟩ : Addr).block < _ from World.block_lt_of_cell? _ _ q_q4)).trans q_q4
    replace HB := Lib.hid (HB.out.trans (hbx.mono HB.out.size)); clear hbx hb
    cases e2 : isAd (h, p) with
    | false =>
      have He2 := Lib.hid e2; clear e2
      go_wp2_with fail
      go_ret
      exact ⟨ret_b (by unfold isRq; simp [He1.out, He2.out]), HB.out⟩
    | true =>
      have He2 := Lib.hid e2; clear e2
      go_wp2_with fail
      refine (HN.out _).mono ?_
      rintro e w3 ⟨rfl, rfl⟩
      cases e3 : isNm f with
      | false =>
        have He3 := Lib.hid e3; clear e3
        go_wp2_with fail
        go_ret
        exact ⟨ret_b (by unfold isRq; simp [He1.out, He2.out, He3.out]), HB.out⟩
      | true =>
        have He3 := Lib.hid e3; clear e3
        cases D with
        | true =>
          have He4 := Lib.hid (of_decide_eq_true HD.out)
          go_wp2_with fail
          go_ret
          exact ⟨ret_b (by unfold isRq; simp [He1.out, He2.out, He3.out, He4.out]), HB.out⟩
        | false =>
          have He4 := Lib.hid (of_decide_eq_false HD.out)
          go_wp2_with fail
          refine (HL.out _).mono ?_
          rintro e w4 ⟨rfl, rfl⟩
          go_wp2_with fail
          go_ret
          exact ⟨ret_b (by unfold isRq; simp [He1.out, He2.out, He3.out, He4.out]), HB.out⟩

set_option maxRecDepth 100000 in
set_option maxHeartbeats 2000000 in
theorem isRq_impl (kd : Int) (h p f g : ByteArray) (ok : RqOk h p f g) (w : World) :
    Calls Try.prog 11 #[.agg #[.int .i64 kd, .string h, .string p, .string f, .string g]] w fun e w' => e = .returned (.bool (isRq kd h p f g)) ∧ Below w.heap.size w w' := by
  obtain ⟨z1, z2, z3, z4⟩ := ok
  obtain ⟨W0, hW⟩ : ∃ W, (w.alloc (.cells #[.int .i64 kd, .string h, .string p, .string f, .string g] 30)) = W := ⟨_, rfl⟩
  have HB := Lib.hid (show Below w.heap.size w W0 by rw [← hW]; exact ((Below.refl w.heap.size w).alloc (by first | (simp; done) | (simp; omega)) _))
  have q_q0 : W0.cell? ⟨w.heap.size, 0, none⟩ = some (.int .i64 kd) := by rw [← hW]; simp
  have q_q1 : W0.cell? ⟨w.heap.size, 1, none⟩ = some (.string h) := by rw [← hW]; simp
  have q_q2 : W0.cell? ⟨w.heap.size, 2, none⟩ = some (.string p) := by rw [← hW]; simp
  have q_q3 : W0.cell? ⟨w.heap.size, 3, none⟩ = some (.string f) := by rw [← hW]; simp
  have q_q4 : W0.cell? ⟨w.heap.size, 4, none⟩ = some (.string g) := by rw [← hW]; simp
  have HW := Lib.hid hW; clear hW
  have HI := Lib.hid (fun X => rin_any kd 1 5 X); have HA := Lib.hid (fun X => isAd_impl h p z1 z2 X); have HN := Lib.hid (fun X => nm_impl f z3 X); have HL := Lib.hid (fun X => val_impl g z4 X)
  obtain ⟨D, hD⟩ : ∃ D, decide (g.size = 0) = D := ⟨_, rfl⟩
  have e4 := empQ_size g; rw [hD] at e4
  have HD := Lib.hid hD; clear hD
  go_enter Try.func11, Try.ntmps11
  go_wp2_with fail
  rw [HW.out]
  refine (HI.out _).mono ?_
  rintro e w1 ⟨rfl, rfl⟩
  cases e1 : inB kd 1 5 with
  | false =>
    have He1 := Lib.hid e1; clear e1
    go_wp2_with fail
    go_ret
    exact ⟨ret_b (by unfold isRq; simp [He1.out]), HB.out⟩
  | true =>
    have He1 := Lib.hid e1; clear e1
    go_wp2_with fail
    refine (HA.out _).mono ?_
    rintro e w2 ⟨rfl, hb⟩
    have hbx := hb
    replace q_q0 := (hbx.cell (show (⟨w.heap.size, 0, none⟩ : Addr).block < _ from World.block_lt_of_cell? _ _ q_q0)).trans q_q0
    replace q_q1 := (hbx.cell (show (⟨w.heap.size, 1, none⟩ : Addr).block < _ from World.block_lt_of_cell? _ _ q_q1)).trans q_q1
    replace q_q2 := (hbx.cell (show (⟨w.heap.size, 2, none⟩ : Addr).block < _ from World.block_lt_of_cell? _ _ q_q2)).trans q_q2
    replace q_q3 := (hbx.cell (show (⟨w.heap.size, 3, none⟩ : Addr).block < _ from World.block_lt_of_cell? _ _ q_q3)).trans q_q3
    replace q_q4 := (hbx.cell (show (⟨w.heap.size, 4, none⟩ : Addr).block < _ from World.block_lt_of_cell? _ _ q_q4)).trans q_q4
    replace HB := Lib.hid (HB.out.trans (hbx.mono HB.out.size)); clear hbx hb
    cases e2 : isAd (h, p) with
    | false =>
      have He2 := Lib.hid e2; clear e2
      go_wp2_with fail
      go_ret
      exact ⟨ret_b (by unfold isRq; simp [He1.out, He2.out]), HB.out⟩
    | true =>
      have He2 := Lib.hid e2; clear e2
      go_wp2_with fail
      refine (HN.out _).mono ?_
      rintro e w3 ⟨rfl, rfl⟩
      cases e3 : isNm f with
      | false =>
        have He3 := Lib.hid e3; clear e3
        go_wp2_with fail
        go_ret
        exact ⟨ret_b (by unfold isRq; simp [He1.out, He2.out, He3.out]), HB.out⟩
      | true =>
        have He3 := Lib.hid e3; clear e3
        cases D with
        | true =>
          have He4 := Lib.hid (of_decide_eq_true HD.out)
          go_wp2_with fail
          go_ret
          exact ⟨ret_b (by unfold isRq; simp [He1.out, He2.out, He3.out, He4.out]), HB.out⟩
        | false =>
          have He4 := Lib.hid (of_decide_eq_false HD.out)
          go_wp2_with fail
          refine (HL.out _).mono ?_
          rintro e w4 ⟨rfl, rfl⟩
          go_wp2_with fail
          go_ret
          exact ⟨ret_b (by unfold isRq; simp [He1.out, He2.out, He3.out, He4.out]), HB.out⟩

/-- CheckRequest. -/
def rqV (q : Pol) (kd : Int) (h p f g : ByteArray) : Int := if isRq kd h p f g = true then if kd = 1 then 1 else if alB q kd h = true then 1 else 2 else 2
theorem ret_iq {a b : Int} (h : a = b) : Ending.returned (.int .i64 a) = .returned (.int .i64 b) := by rw [h]

set_option maxRecDepth 100000 in
set_option maxHeartbeats 2000000 in
theorem chQ_spec (set : Bool) (scr sty img : List ByteArray) (non : ByteArray) (a1 : Option Addr) (n1 c1 : Nat) (a2 : Option Addr) (n2 c2 : Nat) (a3 : Option Addr) (n3 c3 : Nat) (kd : Int) (h p f g : ByteArray) (ok : RqOk h p f g) (w : World) (hr : ReadP w.heap.size w (.slice a1 n1 c1) (.slice a2 n2 c2) (.slice a3 n3 c3) ⟨set, scr, sty, img, non⟩) :
    Calls Try.prog 13 #[.agg #[.bool set, .slice a1 n1 c1, .slice a2 n2 c2, .slice a3 n3 c3, .string non], .agg #[.int .i64 kd, .string h, .string p, .string f, .string g]] w fun e w' => e = .returned (.int .i64 (rqV (⟨set, scr, sty, img, non⟩ : Pol) kd h p f g)) ∧ Below w.heap.size w w' := by
  have HRp := Lib.hid hr; clear hr
  obtain ⟨W0, hW⟩ : ∃ W, ((w.alloc (.cells #[.bool set, .slice a1 n1 c1, .slice a2 n2 c2, .slice a3 n3 c3, .string non] 38)).alloc (.cells #[.int .i64 kd, .string h, .string p, .string f, .string g] 30)) = W := ⟨_, rfl⟩
  have HB := Lib.hid (show Below w.heap.size w W0 by rw [← hW]; exact (((Below.refl w.heap.size w).alloc (by first | (simp; done) | (simp; omega)) _).alloc (by first | (simp; done) | (simp; omega)) _))
  have q_p0 : W0.cell? ⟨w.heap.size, 0, none⟩ = some (.bool set) := by rw [← hW]; simp
  have q_p1 : W0.cell? ⟨w.heap.size, 1, none⟩ = some (.slice a1 n1 c1) := by rw [← hW]; simp
  have q_p2 : W0.cell? ⟨w.heap.size, 2, none⟩ = some (.slice a2 n2 c2) := by rw [← hW]; simp
  have q_p3 : W0.cell? ⟨w.heap.size, 3, none⟩ = some (.slice a3 n3 c3) := by rw [← hW]; simp
  have q_p4 : W0.cell? ⟨w.heap.size, 4, none⟩ = some (.string non) := by rw [← hW]; simp
  have q_q0 : W0.cell? ⟨w.heap.size + 1, 0, none⟩ = some (.int .i64 kd) := by rw [← hW]; simp
  have q_q1 : W0.cell? ⟨w.heap.size + 1, 1, none⟩ = some (.string h) := by rw [← hW]; simp
  have q_q2 : W0.cell? ⟨w.heap.size + 1, 2, none⟩ = some (.string p) := by rw [← hW]; simp
  have q_q3 : W0.cell? ⟨w.heap.size + 1, 3, none⟩ = some (.string f) := by rw [← hW]; simp
  have q_q4 : W0.cell? ⟨w.heap.size + 1, 4, none⟩ = some (.string g) := by rw [← hW]; simp
  replace HRp := Lib.hid (ReadP.up HRp.out HB.out)
  have HW := Lib.hid hW; clear hW
  have HI := Lib.hid (fun X => isRq_spec kd h p f g ok X); have HA := Lib.hid (fun X hx => allows_spec set scr sty img non a1 n1 c1 a2 n2 c2 a3 n3 c3 kd h X hx)
  clear ok
  go_enter Try.func13, Try.ntmps13
  go_wp2_with fail
  rw [HW.out]
  refine (HI.out _).mono ?_
  rintro e w1 ⟨rfl, hb⟩
  have hbx := hb
  replace q_p0 := (hbx.cell (show (⟨w.heap.size, 0, none⟩ : Addr).block < _ from World.block_lt_of_cell? _ _ q_p0)).trans q_p0
  replace q_p1 := (hbx.cell (show (⟨w.heap.size, 1, none⟩ : Addr).block < _ from World.block_lt_of_cell? _ _ q_p1)).trans q_p1
  replace q_p2 := (hbx.cell (show (⟨w.heap.size, 2, none⟩ : Addr).block < _ from World.block_lt_of_cell? _ _ q_p2)).trans q_p2
  replace q_p3 := (hbx.cell (show (⟨w.heap.size, 3, none⟩ : Addr).block < _ from World.block_lt_of_cell? _ _ q_p3)).trans q_p3
  replace q_p4 := (hbx.cell (show (⟨w.heap.size, 4, none⟩ : Addr).block < _ from World.block_lt_of_cell? _ _ q_p4)).trans q_p4
  replace q_q0 := (hbx.cell (show (⟨w.heap.size + 1, 0, none⟩ : Addr).block < _ from World.block_lt_of_cell? _ _ q_q0)).trans q_q0
  replace q_q1 := (hbx.cell (show (⟨w.heap.size + 1, 1, none⟩ : Addr).block < _ from World.block_lt_of_cell? _ _ q_q1)).trans q_q1
  replace q_q2 := (hbx.cell (show (⟨w.heap.size + 1, 2, none⟩ : Addr).block < _ from World.block_lt_of_cell? _ _ q_q2)).trans q_q2
  replace q_q3 := (hbx.cell (show (⟨w.heap.size + 1, 3, none⟩ : Addr).block < _ from World.block_lt_of_cell? _ _ q_q3)).trans q_q3
  replace q_q4 := (hbx.cell (show (⟨w.heap.size + 1, 4, none⟩ : Addr).block < _ from World.block_lt_of_cell? _ _ q_q4)).trans q_q4
  replace HRp := Lib.hid (ReadP.up HRp.out hbx)
  replace HB := Lib.hid (HB.out.trans (hbx.mono HB.out.size)); clear hbx hb
  cases e1 : isRq kd h p f g with
  | false =>
    have He1 := Lib.hid e1; clear e1
    go_wp2_with fail
    go_ret
    exact ⟨ret_iq (by unfold rqV; rw [if_neg (by rw [He1.out]; exact Bool.false_ne_true)]), HB.out⟩
  | true =>
    have He1 := Lib.hid e1; clear e1
    by_cases e2 : kd = 1
    · have He2 := Lib.hid e2
      have x1 : (kd == 1) = true := beq_iff_eq.2 e2
      have x2 : (kd != 1) = false := by rw [bne, x1]; rfl
      clear e2
      go_wp2_with fail
      go_ret
      exact ⟨ret_iq (by unfold rqV; rw [if_pos He1.out, if_pos He2.out]), HB.out⟩
    · have He2 := Lib.hid e2
      have x1 : (kd == 1) = false := beq_eq_false_iff_ne.2 e2
      have x2 : (kd != 1) = true := by rw [bne, x1]; rfl
      clear e2
      go_wp2_with fail
      refine (HA.out _ HRp.out).mono ?_
      rintro e w2 ⟨rfl, hb⟩
      have hbx := hb.below
      replace q_p0 := (hbx.cell (show (⟨w.heap.size, 0, none⟩ : Addr).block < _ from World.block_lt_of_cell? _ _ q_p0)).trans q_p0
      replace q_p1 := (hbx.cell (show (⟨w.heap.size, 1, none⟩ : Addr).block < _ from World.block_lt_of_cell? _ _ q_p1)).trans q_p1
      replace q_p2 := (hbx.cell (show (⟨w.heap.size, 2, none⟩ : Addr).block < _ from World.block_lt_of_cell? _ _ q_p2)).trans q_p2
      replace q_p3 := (hbx.cell (show (⟨w.heap.size, 3, none⟩ : Addr).block < _ from World.block_lt_of_cell? _ _ q_p3)).trans q_p3
      replace q_p4 := (hbx.cell (show (⟨w.heap.size, 4, none⟩ : Addr).block < _ from World.block_lt_of_cell? _ _ q_p4)).trans q_p4
      replace q_q0 := (hbx.cell (show (⟨w.heap.size + 1, 0, none⟩ : Addr).block < _ from World.block_lt_of_cell? _ _ q_q0)).trans q_q0
      replace q_q1 := (hbx.cell (show (⟨w.heap.size + 1, 1, none⟩ : Addr).block < _ from World.block_lt_of_cell? _ _ q_q1)).trans q_q1
      replace q_q2 := (hbx.cell (show (⟨w.heap.size + 1, 2, none⟩ : Addr).block < _ from World.block_lt_of_cell? _ _ q_q2)).trans q_q2
      replace q_q3 := (hbx.cell (show (⟨w.heap.size + 1, 3, none⟩ : Addr).block < _ from World.block_lt_of_cell? _ _ q_q3)).trans q_q3
      replace q_q4 := (hbx.cell (show (⟨w.heap.size + 1, 4, none⟩ : Addr).block < _ from World.block_lt_of_cell? _ _ q_q4)).trans q_q4
      replace HRp := Lib.hid (ReadP.up HRp.out hbx)
      replace HB := Lib.hid (HB.out.trans (hbx.mono HB.out.size)); clear hbx hb
      cases e3 : alB (⟨set, scr, sty, img, non⟩ : Pol) kd h with
      | false =>
        have He3 := Lib.hid e3; clear e3
        go_wp2_with fail
        go_ret
        exact ⟨ret_iq (by unfold rqV; rw [if_pos He1.out, if_neg He2.out, if_neg (by rw [He3.out]; exact Bool.false_ne_true)]), HB.out⟩
      | true =>
        have He3 := Lib.hid e3; clear e3
        go_wp2_with fail
        go_ret
        exact ⟨ret_iq (by unfold rqV; rw [if_pos He1.out, if_neg He2.out, if_pos He3.out]), HB.out⟩

set_option maxRecDepth 100000 in
set_option maxHeartbeats 2000000 in
theorem chQ_impl (set : Bool) (scr sty img : List ByteArray) (non : ByteArray) (a1 : Option Addr) (n1 c1 : Nat) (a2 : Option Addr) (n2 c2 : Nat) (a3 : Option Addr) (n3 c3 : Nat) (kd : Int) (h p f g : ByteArray) (ok : RqOk h p f g) (w : World) (hr : ReadP w.heap.size w (.slice a1 n1 c1) (.slice a2 n2 c2) (.slice a3 n3 c3) ⟨set, scr, sty, img, non⟩) :
    Calls Try.prog 15 #[.agg #[.bool set, .slice a1 n1 c1, .slice a2 n2 c2, .slice a3 n3 c3, .string non], .agg #[.int .i64 kd, .string h, .string p, .string f, .string g]] w fun e w' => e = .returned (.int .i64 (rqV (⟨set, scr, sty, img, non⟩ : Pol) kd h p f g)) ∧ Below w.heap.size w w' := by
  have HRp := Lib.hid hr; clear hr
  obtain ⟨W0, hW⟩ : ∃ W, ((w.alloc (.cells #[.bool set, .slice a1 n1 c1, .slice a2 n2 c2, .slice a3 n3 c3, .string non] 38)).alloc (.cells #[.int .i64 kd, .string h, .string p, .string f, .string g] 30)) = W := ⟨_, rfl⟩
  have HB := Lib.hid (show Below w.heap.size w W0 by rw [← hW]; exact (((Below.refl w.heap.size w).alloc (by first | (simp; done) | (simp; omega)) _).alloc (by first | (simp; done) | (simp; omega)) _))
  have q_p0 : W0.cell? ⟨w.heap.size, 0, none⟩ = some (.bool set) := by rw [← hW]; simp
  have q_p1 : W0.cell? ⟨w.heap.size, 1, none⟩ = some (.slice a1 n1 c1) := by rw [← hW]; simp
  have q_p2 : W0.cell? ⟨w.heap.size, 2, none⟩ = some (.slice a2 n2 c2) := by rw [← hW]; simp
  have q_p3 : W0.cell? ⟨w.heap.size, 3, none⟩ = some (.slice a3 n3 c3) := by rw [← hW]; simp
  have q_p4 : W0.cell? ⟨w.heap.size, 4, none⟩ = some (.string non) := by rw [← hW]; simp
  have q_q0 : W0.cell? ⟨w.heap.size + 1, 0, none⟩ = some (.int .i64 kd) := by rw [← hW]; simp
  have q_q1 : W0.cell? ⟨w.heap.size + 1, 1, none⟩ = some (.string h) := by rw [← hW]; simp
  have q_q2 : W0.cell? ⟨w.heap.size + 1, 2, none⟩ = some (.string p) := by rw [← hW]; simp
  have q_q3 : W0.cell? ⟨w.heap.size + 1, 3, none⟩ = some (.string f) := by rw [← hW]; simp
  have q_q4 : W0.cell? ⟨w.heap.size + 1, 4, none⟩ = some (.string g) := by rw [← hW]; simp
  replace HRp := Lib.hid (ReadP.up HRp.out HB.out)
  have HW := Lib.hid hW; clear hW
  have HI := Lib.hid (fun X => isRq_impl kd h p f g ok X); have HA := Lib.hid (fun X hx => allows_impl set scr sty img non a1 n1 c1 a2 n2 c2 a3 n3 c3 kd h X hx)
  clear ok
  go_enter Try.func15, Try.ntmps15
  go_wp2_with fail
  rw [HW.out]
  refine (HI.out _).mono ?_
  rintro e w1 ⟨rfl, hb⟩
  have hbx := hb
  replace q_p0 := (hbx.cell (show (⟨w.heap.size, 0, none⟩ : Addr).block < _ from World.block_lt_of_cell? _ _ q_p0)).trans q_p0
  replace q_p1 := (hbx.cell (show (⟨w.heap.size, 1, none⟩ : Addr).block < _ from World.block_lt_of_cell? _ _ q_p1)).trans q_p1
  replace q_p2 := (hbx.cell (show (⟨w.heap.size, 2, none⟩ : Addr).block < _ from World.block_lt_of_cell? _ _ q_p2)).trans q_p2
  replace q_p3 := (hbx.cell (show (⟨w.heap.size, 3, none⟩ : Addr).block < _ from World.block_lt_of_cell? _ _ q_p3)).trans q_p3
  replace q_p4 := (hbx.cell (show (⟨w.heap.size, 4, none⟩ : Addr).block < _ from World.block_lt_of_cell? _ _ q_p4)).trans q_p4
  replace q_q0 := (hbx.cell (show (⟨w.heap.size + 1, 0, none⟩ : Addr).block < _ from World.block_lt_of_cell? _ _ q_q0)).trans q_q0
  replace q_q1 := (hbx.cell (show (⟨w.heap.size + 1, 1, none⟩ : Addr).block < _ from World.block_lt_of_cell? _ _ q_q1)).trans q_q1
  replace q_q2 := (hbx.cell (show (⟨w.heap.size + 1, 2, none⟩ : Addr).block < _ from World.block_lt_of_cell? _ _ q_q2)).trans q_q2
  replace q_q3 := (hbx.cell (show (⟨w.heap.size + 1, 3, none⟩ : Addr).block < _ from World.block_lt_of_cell? _ _ q_q3)).trans q_q3
  replace q_q4 := (hbx.cell (show (⟨w.heap.size + 1, 4, none⟩ : Addr).block < _ from World.block_lt_of_cell? _ _ q_q4)).trans q_q4
  replace HRp := Lib.hid (ReadP.up HRp.out hbx)
  replace HB := Lib.hid (HB.out.trans (hbx.mono HB.out.size)); clear hbx hb
  cases e1 : isRq kd h p f g with
  | false =>
    have He1 := Lib.hid e1; clear e1
    go_wp2_with fail
    go_ret
    exact ⟨ret_iq (by unfold rqV; rw [if_neg (by rw [He1.out]; exact Bool.false_ne_true)]), HB.out⟩
  | true =>
    have He1 := Lib.hid e1; clear e1
    by_cases e2 : kd = 1
    · have He2 := Lib.hid e2
      have x1 : (kd == 1) = true := beq_iff_eq.2 e2
      have x2 : (kd != 1) = false := by rw [bne, x1]; rfl
      clear e2
      go_wp2_with fail
      go_ret
      exact ⟨ret_iq (by unfold rqV; rw [if_pos He1.out, if_pos He2.out]), HB.out⟩
    · have He2 := Lib.hid e2
      have x1 : (kd == 1) = false := beq_eq_false_iff_ne.2 e2
      have x2 : (kd != 1) = true := by rw [bne, x1]; rfl
      clear e2
      go_wp2_with fail
      refine (HA.out _ HRp.out).mono ?_
      rintro e w2 ⟨rfl, hb⟩
      have hbx := hb.below
      replace q_p0 := (hbx.cell (show (⟨w.heap.size, 0, none⟩ : Addr).block < _ from World.block_lt_of_cell? _ _ q_p0)).trans q_p0
      replace q_p1 := (hbx.cell (show (⟨w.heap.size, 1, none⟩ : Addr).block < _ from World.block_lt_of_cell? _ _ q_p1)).trans q_p1
      replace q_p2 := (hbx.cell (show (⟨w.heap.size, 2, none⟩ : Addr).block < _ from World.block_lt_of_cell? _ _ q_p2)).trans q_p2
      replace q_p3 := (hbx.cell (show (⟨w.heap.size, 3, none⟩ : Addr).block < _ from World.block_lt_of_cell? _ _ q_p3)).trans q_p3
      replace q_p4 := (hbx.cell (show (⟨w.heap.size, 4, none⟩ : Addr).block < _ from World.block_lt_of_cell? _ _ q_p4)).trans q_p4
      replace q_q0 := (hbx.cell (show (⟨w.heap.size + 1, 0, none⟩ : Addr).block < _ from World.block_lt_of_cell? _ _ q_q0)).trans q_q0
      replace q_q1 := (hbx.cell (show (⟨w.heap.size + 1, 1, none⟩ : Addr).block < _ from World.block_lt_of_cell? _ _ q_q1)).trans q_q1
      replace q_q2 := (hbx.cell (show (⟨w.heap.size + 1, 2, none⟩ : Addr).block < _ from World.block_lt_of_cell? _ _ q_q2)).trans q_q2
      replace q_q3 := (hbx.cell (show (⟨w.heap.size + 1, 3, none⟩ : Addr).block < _ from World.block_lt_of_cell? _ _ q_q3)).trans q_q3
      replace q_q4 := (hbx.cell (show (⟨w.heap.size + 1, 4, none⟩ : Addr).block < _ from World.block_lt_of_cell? _ _ q_q4)).trans q_q4
      replace HRp := Lib.hid (ReadP.up HRp.out hbx)
      replace HB := Lib.hid (HB.out.trans (hbx.mono HB.out.size)); clear hbx hb
      cases e3 : alB (⟨set, scr, sty, img, non⟩ : Pol) kd h with
      | false =>
        have He3 := Lib.hid e3; clear e3
        go_wp2_with fail
        go_ret
        exact ⟨ret_iq (by unfold rqV; rw [if_pos He1.out, if_neg He2.out, if_neg (by rw [He3.out]; exact Bool.false_ne_true)]), HB.out⟩
      | true =>
        have He3 := Lib.hid e3; clear e3
        go_wp2_with fail
        go_ret
        exact ⟨ret_iq (by unfold rqV; rw [if_pos He1.out, if_neg He2.out, if_pos He3.out]), HB.out⟩

end Go.Proofs.Ytkjjiinccljhjaa

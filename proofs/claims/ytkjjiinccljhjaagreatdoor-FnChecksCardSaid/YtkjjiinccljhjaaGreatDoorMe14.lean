/- Helper contracts: IsRequest and CheckRequest of the program and of the model answer alike. Asked: strings are shorter than 2^63 bytes; the policy's slices read as named. Slices of strings of the call's own, wherever they begin in their block. Helper facts, no claim of its own. Helper contracts over the functions with which the laws copy, compare, measure and mark slices, by program (deep.py). Asked: what lies in memory is as named. Tokens and their attributes in memory: what it means that a slice value reads as a list of them, that a call owns all of it, and append to such a slice. Helper facts, no claim of its own. Append of attributes to a slice of the call's own. Helper facts, no claim of its own. Helper contracts: the program's calls into Go's strings at one byte (IndexByte, CutPrefix at "/", Cut, Split), by the plain words of this development. Asked: the string is shorter than 2^32 bytes where it is divided. A bound on lengths out of the world's own shape: the library's MaxLen holds a number. Helper facts, no claim of their own. Helper contracts: strings.Cut at the word ahead of a nonce, the hosts behind a word. Asked: the text is no longer than 2^20 bytes; for Cut: the library's MaxLen holds a number. -/
import Derived.Test.YtkjjiinccljhjaaGreatDoorMe12
import Derived.Test.YtkjjiinccljhjaaGreatDoorMe9
import Derived.Test.YtkjjiinccljhjaaGreatDoorMe5
import Derived.Test.YtkjjiinccljhjaaGreatDoorMe6
import Derived.Test.YtkjjiinccljhjaaGreatDoorMe8
import Derived.Test.YtkjjiinccljhjaaGreatDoorMe4
import Derived.Test.YtkjjiinccljhjaaGreatDoorMe3
import Derived.Test.YtkjjiinccljhjaaGreatDoorMe2
import Derived.Shelf.SlSortCmp.QuietGrown
import Derived.Test.YtkjjiinccljhjaaGreatDoorShelf
import Derived.Test.YtkjjiinccljhjaaGreatDoorMe1
namespace Go.Proofs.YtkjjiinccljhjaaGreatDoor

open Go.ChangeShapes Go.WideShapes Go.ChangeAt Go.RowKit

/-- IsRequest. -/
def isRq (kd : Int) (h p f g : ByteArray) : Bool := inB kd 1 5 && isAd (h, p) && isNm f && (decide (g.size = 0) || isVal g)
theorem empQ_size (s : ByteArray) : (s.toList == []) = decide (s.size = 0) := by
  rw [ByteArray.toList_eq]
  by_cases h : s.size = 0
  · rw [decide_eq_true h, beq_iff_eq]; exact List.eq_nil_of_length_eq_zero (by rw [size_list]; exact h)
  · rw [decide_eq_false h]
    refine beq_eq_false_iff_ne.2 fun e => h ?_
    rw [← size_list, e]; rfl

set_option maxRecDepth 100000 in
set_option maxHeartbeats 2000000 in
theorem isRq_spec (kd : Int) (h p f g : ByteArray) (ok : RqOk h p f g) (w : World) :
    Calls Tryz.prog 87 #[.agg #[.int .i64 kd, .string h, .string p, .string f, .string g]] w fun e w' => e = .returned (.bool (isRq kd h p f g)) ∧ Below w.heap.size w w' := by
  obtain ⟨z1, z2, z3, z4⟩ := ok
  obtain ⟨W0, hW⟩ : ∃ W, (w.alloc (.cells #[.int .i64 kd, .string h, .string p, .string f, .string g] 30)) = W := ⟨_, rfl⟩
  have HB := Lib.hid (show Below w.heap.size w W0 by rw [← hW]; exact ((Below.refl w.heap.size w).alloc (by first | (simp; done) | (simp; omega)) _))
  have q_q0 : W0.cell? ⟨w.heap.size, 0, none⟩ = some (.int .i64 kd) := by rw [← hW]; simp
  have q_q1 : W0.cell? ⟨w.heap.size, 1, none⟩ = some (.string h) := by rw [← hW]; simp
  have q_q2 : W0.cell? ⟨w.heap.size, 2, none⟩ = some (.string p) := by rw [← hW]; simp
  have q_q3 : W0.cell? ⟨w.heap.size, 3, none⟩ = some (.string f) := by rw [← hW]; simp
  have q_q4 : W0.cell? ⟨w.heap.size, 4, none⟩ = some (.string g) := by rw [← hW]; simp
  have HW := Lib.hid hW; clear hW
  have HI := Lib.hid (fun X => lin_any kd 1 5 X); have HA := Lib.hid (fun X => isAd_spec h p z1 z2 X); have HN := Lib.hid (fun X => nm_spec f z3 X); have HL := Lib.hid (fun X => val_spec g z4 X)
  obtain ⟨D, hD⟩ : ∃ D, decide (g.size = 0) = D := ⟨_, rfl⟩
  have e4 := empQ_size g; rw [hD] at e4
  have HD := Lib.hid hD; clear hD
  go_enter Tryz.func87, Tryz.ntmps87
  go_wp2_with fail
  rw [HW.out]
  refine (HI.out _).mono ?_
  rintro e w1 ⟨rfl, rfl⟩
  cases e1 : inB kd 1 5 with
  | false =>
    have He1 := Lib.hid e1; clear e1
    go_wp2_with fail
    go_ret
    exact ⟨ret_b (by unfold isRq; simp [He1.out]), HB.out⟩
  | true =>
    have He1 := Lib.hid e1; clear e1
    go_wp2_with fail
    refine (HA.out _).mono ?_
    rintro e w2 ⟨rfl, hb⟩
    have hbx := hb
    replace q_q0 := (hbx.cell (show (⟨w.heap.size, 0, none⟩ : Addr).block < _ from World.block_lt_of_cell? _ _ q_q0)).trans q_q0
    replace q_q1 := (hbx.cell (show (⟨w.heap.size, 1, none⟩ : Addr).block < _ from World.block_lt_of_cell? _ _ q_q1)).trans q_q1
    replace q_q2 := (hbx.cell (show (⟨w.heap.size, 2, none⟩ : Addr).block < _ from World.block_lt_of_cell? _ _ q_q2)).trans q_q2
    replace q_q3 := (hbx.cell (show (⟨w.heap.size, 3, none⟩ : Addr).block < _ from World.block_lt_of_cell? _ _ q_q3)).trans q_q3
    replace q_q4 := (hbx.cell (show (⟨w.heap.size, 4, none⟩ : Addr).block < _ from World.block_lt_of_cell? _ _ q_q4)).trans q_q4
    replace HB := Lib.hid (HB.out.trans (hbx.mono HB.out.size)); clear hbx hb
    cases e2 : isAd (h, p) with
    | false =>
      have He2 := Lib.hid e2; clear e2
      go_wp2_with fail
      go_ret
      exact ⟨ret_b (by unfold isRq; simp [He1.out, He2.out]), HB.out⟩
    | true =>
      have He2 := Lib.hid e2; clear e2
      go_wp2_with fail
      refine (HN.out _).mono ?_
      rintro e w3 ⟨rfl, rfl⟩
      cases e3 : isNm f with
      | false =>
        have He3 := Lib.hid e3; clear e3
        go_wp2_with fail
        go_ret
        exact ⟨ret_b (by unfold isRq; simp [He1.out, He2.out, He3.out]), HB.out⟩
      | true =>
        have He3 := Lib.hid e3; clear e3
        cases D with
        | true =>
          have He4 := Lib.hid (of_decide_eq_true HD.out)
          go_wp2_with fail
          go_ret
          exact ⟨ret_b (by unfold isRq; simp [He1.out, He2.out, He3.out, He4.out]), HB.out⟩
        | false =>
          have He4 := Lib.hid (of_decide_eq_false HD.out)
          go_wp2_with fail
          refine (HL.out _).mono ?_
          rintro e w4 ⟨rfl, rfl⟩
          go_wp2_with fail
          go_ret
          exact ⟨ret_b (by unfold isRq; simp [He1.out, He2.out, He3.out, He4.out]), HB.out⟩

set_option maxRecDepth 100000 in
set_option maxHeartbeats 2000000 in
theorem isRq_impl (kd : Int) (h p f g : ByteArray) (ok : RqOk h p f g) (w : World) :
    Calls Tryz.prog 80 #[.agg #[.int .i64 kd, .string h, .string p, .string f, .string g]] w fun e w' => e = .returned (.bool (isRq kd h p f g)) ∧ Below w.heap.size w w' := by
  obtain ⟨z1, z2, z3, z4⟩ := ok
  obtain ⟨W0, hW⟩ : ∃ W, (w.alloc (.cells #[.int .i64 kd, .string h, .string p, .string f, .string g] 30)) = W := ⟨_, rfl⟩
  have HB := Lib.hid (show Below w.heap.size w W0 by rw [← hW]; exact ((Below.refl w.heap.size w).alloc (by first | (simp; done) | (simp; omega)) _))
  have q_q0 : W0.cell? ⟨w.heap.size, 0, none⟩ = some (.int .i64 kd) := by rw [← hW]; simp
  have q_q1 : W0.cell? ⟨w.heap.size, 1, none⟩ = some (.string h) := by rw [← hW]; simp
  have q_q2 : W0.cell? ⟨w.heap.size, 2, none⟩ = some (.string p) := by rw [← hW]; simp
  have q_q3 : W0.cell? ⟨w.heap.size, 3, none⟩ = some (.string f) := by rw [← hW]; simp
  have q_q4 : W0.cell? ⟨w.heap.size, 4, none⟩ = some (.string g) := by rw [← hW]; simp
  have HW := Lib.hid hW; clear hW
  have HI := Lib.hid (fun X => rin_any kd 1 5 X); have HA := Lib.hid (fun X => isAd_impl h p z1 z2 X); have HN := Lib.hid (fun X => nm_impl f z3 X); have HL := Lib.hid (fun X => val_impl g z4 X)
  obtain ⟨D, hD⟩ : ∃ D, decide (g.size = 0) = D := ⟨_, rfl⟩
  have e4 := empQ_size g; rw [hD] at e4
  have HD := Lib.hid hD; clear hD
  go_enter Tryz.func80, Tryz.ntmps80
  go_wp2_with fail
  rw [HW.out]
  refine (HI.out _).mono ?_
  rintro e w1 ⟨rfl, rfl⟩
  cases e1 : inB kd 1 5 with
  | false =>
    have He1 := Lib.hid e1; clear e1
    go_wp2_with fail
    go_ret
    exact ⟨ret_b (by unfold isRq; simp [He1.out]), HB.out⟩
  | true =>
    have He1 := Lib.hid e1; clear e1
    go_wp2_with fail
    refine (HA.out _).mono ?_
    rintro e w2 ⟨rfl, hb⟩
    have hbx := hb
    replace q_q0 := (hbx.cell (show (⟨w.heap.size, 0, none⟩ : Addr).block < _ from World.block_lt_of_cell? _ _ q_q0)).trans q_q0
    replace q_q1 := (hbx.cell (show (⟨w.heap.size, 1, none⟩ : Addr).block < _ from World.block_lt_of_cell? _ _ q_q1)).trans q_q1
    replace q_q2 := (hbx.cell (show (⟨w.heap.size, 2, none⟩ : Addr).block < _ from World.block_lt_of_cell? _ _ q_q2)).trans q_q2
    replace q_q3 := (hbx.cell (show (⟨w.heap.size, 3, none⟩ : Addr).block < _ from World.block_lt_of_cell? _ _ q_q3)).trans q_q3
    replace q_q4 := (hbx.cell (show (⟨w.heap.size, 4, none⟩ : Addr).block < _ from World.block_lt_of_cell? _ _ q_q4)).trans q_q4
    replace HB := Lib.hid (HB.out.trans (hbx.mono HB.out.size)); clear hbx hb
    cases e2 : isAd (h, p) with
    | false =>
      have He2 := Lib.hid e2; clear e2
      go_wp2_with fail
      go_ret
      exact ⟨ret_b (by unfold isRq; simp [He1.out, He2.out]), HB.out⟩
    | true =>
      have He2 := Lib.hid e2; clear e2
      go_wp2_with fail
      refine (HN.out _).mono ?_
      rintro e w3 ⟨rfl, rfl⟩
      cases e3 : isNm f with
      | false =>
        have He3 := Lib.hid e3; clear e3
        go_wp2_with fail
        go_ret
        exact ⟨ret_b (by unfold isRq; simp [He1.out, He2.out, He3.out]), HB.out⟩
      | true =>
        have He3 := Lib.hid e3; clear e3
        cases D with
        | true =>
          have He4 := Lib.hid (of_decide_eq_true HD.out)
          go_wp2_with fail
          go_ret
          exact ⟨ret_b (by unfold isRq; simp [He1.out, He2.out, He3.out, He4.out]), HB.out⟩
        | false =>
          have He4 := Lib.hid (of_decide_eq_false HD.out)
          go_wp2_with fail
          refine (HL.out _).mono ?_
          rintro e w4 ⟨rfl, rfl⟩
          go_wp2_with fail
          go_ret
          exact ⟨ret_b (by unfold isRq; simp [He1.out, He2.out, He3.out, He4.out]), HB.out⟩

/-- CheckRequest. -/
def rqV (q : Pol) (kd : Int) (h p f g : ByteArray) : Int := if isRq kd h p f g = true then if kd = 1 then 1 else if alB q kd h = true then 1 else 2 else 2
theorem ret_iq {a b : Int} (h : a = b) : Ending.returned (.int .i64 a) = .returned (.int .i64 b) := by rw [h]

set_option maxRecDepth 100000 in
set_option maxHeartbeats 2000000 in
theorem chQ_spec (set : Bool) (scr sty img : List ByteArray) (non : ByteArray) (a1 : Option Addr) (n1 c1 : Nat) (a2 : Option Addr) (n2 c2 : Nat) (a3 : Option Addr) (n3 c3 : Nat) (kd : Int) (h p f g : ByteArray) (ok : RqOk h p f g) (w : World) (hr : ReadP w.heap.size w (.slice a1 n1 c1) (.slice a2 n2 c2) (.slice a3 n3 c3) ⟨set, scr, sty, img, non⟩) :
    Calls Tryz.prog 78 #[.agg #[.bool set, .slice a1 n1 c1, .slice a2 n2 c2, .slice a3 n3 c3, .string non], .agg #[.int .i64 kd, .string h, .string p, .string f, .string g]] w fun e w' => e = .returned (.int .i64 (rqV (⟨set, scr, sty, img, non⟩ : Pol) kd h p f g)) ∧ Below w.heap.size w w' := by
  have HRp := Lib.hid hr; clear hr
  obtain ⟨W0, hW⟩ : ∃ W, ((w.alloc (.cells #[.bool set, .slice a1 n1 c1, .slice a2 n2 c2, .slice a3 n3 c3, .string non] 26)).alloc (.cells #[.int .i64 kd, .string h, .string p, .string f, .string g] 30)) = W := ⟨_, rfl⟩
  have HB := Lib.hid (show Below w.heap.size w W0 by rw [← hW]; exact (((Below.refl w.heap.size w).alloc (by first | (simp; done) | (simp; omega)) _).alloc (by first | (simp; done) | (simp; omega)) _))
  have q_p0 : W0.cell? ⟨w.heap.size, 0, none⟩ = some (.bool set) := by rw [← hW]; simp
  have q_p1 : W0.cell? ⟨w.heap.size, 1, none⟩ = some (.slice a1 n1 c1) := by rw [← hW]; simp
  have q_p2 : W0.cell? ⟨w.heap.size, 2, none⟩ = some (.slice a2 n2 c2) := by rw [← hW]; simp
  have q_p3 : W0.cell? ⟨w.heap.size, 3, none⟩ = some (.slice a3 n3 c3) := by rw [← hW]; simp
  have q_p4 : W0.cell? ⟨w.heap.size, 4, none⟩ = some (.string non) := by rw [← hW]; simp
  have q_q0 : W0.cell? ⟨w.heap.size + 1, 0, none⟩ = some (.int .i64 kd) := by rw [← hW]; simp
  have q_q1 : W0.cell? ⟨w.heap.size + 1, 1, none⟩ = some (.string h) := by rw [← hW]; simp
  have q_q2 : W0.cell? ⟨w.heap.size + 1, 2, none⟩ = some (.string p) := by rw [← hW]; simp
  have q_q3 : W0.cell? ⟨w.heap.size + 1, 3, none⟩ = some (.string f) := by rw [← hW]; simp
  have q_q4 : W0.cell? ⟨w.heap.size + 1, 4, none⟩ = some (.string g) := by rw [← hW]; simp
  replace HRp := Lib.hid (ReadP.up HRp.out HB.out)
  have HW := Lib.hid hW; clear hW
  have HI := Lib.hid (fun X => isRq_spec kd h p f g ok X); have HA := Lib.hid (fun X hx => allows_spec set scr sty img non a1 n1 c1 a2 n2 c2 a3 n3 c3 kd h X hx)
  clear ok
  go_enter Tryz.func78, Tryz.ntmps78
  go_wp2_with fail
  rw [HW.out]
  refine (HI.out _).mono ?_
  rintro e w1 ⟨rfl, hb⟩
  have hbx := hb
  replace q_p0 := (hbx.cell (show (⟨w.heap.size, 0, none⟩ : Addr).block < _ from World.block_lt_of_cell? _ _ q_p0)).trans q_p0
  replace q_p1 := (hbx.cell (show (⟨w.heap.size, 1, none⟩ : Addr).block < _ from World.block_lt_of_cell? _ _ q_p1)).trans q_p1
  replace q_p2 := (hbx.cell (show (⟨w.heap.size, 2, none⟩ : Addr).block < _ from World.block_lt_of_cell? _ _ q_p2)).trans q_p2
  replace q_p3 := (hbx.cell (show (⟨w.heap.size, 3, none⟩ : Addr).block < _ from World.block_lt_of_cell? _ _ q_p3)).trans q_p3
  replace q_p4 := (hbx.cell (show (⟨w.heap.size, 4, none⟩ : Addr).block < _ from World.block_lt_of_cell? _ _ q_p4)).trans q_p4
  replace q_q0 := (hbx.cell (show (⟨w.heap.size + 1, 0, none⟩ : Addr).block < _ from World.block_lt_of_cell? _ _ q_q0)).trans q_q0
  replace q_q1 := (hbx.cell (show (⟨w.heap.size + 1, 1, none⟩ : Addr).block < _ from World.block_lt_of_cell? _ _ q_q1)).trans q_q1
  replace q_q2 := (hbx.cell (show (⟨w.heap.size + 1, 2, none⟩ : Addr).block < _ from World.block_lt_of_cell? _ _ q_q2)).trans q_q2
  replace q_q3 := (hbx.cell (show (⟨w.heap.size + 1, 3, none⟩ : Addr).block < _ from World.block_lt_of_cell? _ _ q_q3)).trans q_q3
  replace q_q4 := (hbx.cell (show (⟨w.heap.size + 1, 4, none⟩ : Addr).block < _ from World.block_lt_of_cell? _ _ q_q4)).trans q_q4
  replace HRp := Lib.hid (ReadP.up HRp.out hbx)
  replace HB := Lib.hid (HB.out.trans (hbx.mono HB.out.size)); clear hbx hb
  cases e1 : isRq kd h p f g with
  | false =>
    have He1 := Lib.hid e1; clear e1
    go_wp2_with fail
    go_ret
    exact ⟨ret_iq (by unfold rqV; rw [if_neg (by rw [He1.out]; exact Bool.false_ne_true)]), HB.out⟩
  | true =>
    have He1 := Lib.hid e1; clear e1
    by_cases e2 : kd = 1
    · have He2 := Lib.hid e2
      have x1 : (kd == 1) = true := beq_iff_eq.2 e2
      have x2 : (kd != 1) = false := by rw [bne, x1]; rfl
      clear e2
      go_wp2_with fail
      go_ret
      exact ⟨ret_iq (by unfold rqV; rw [if_pos He1.out, if_pos He2.out]), HB.out⟩
    · have He2 := Lib.hid e2
      have x1 : (kd == 1) = false := beq_eq_false_iff_ne.2 e2
      have x2 : (kd != 1) = true := by rw [bne, x1]; rfl
      clear e2
      go_wp2_with fail
      refine (HA.out _ HRp.out).mono ?_
      rintro e w2 ⟨rfl, hb⟩
      have hbx := hb.below
      replace q_p0 := (hbx.cell (show (⟨w.heap.size, 0, none⟩ : Addr).block < _ from World.block_lt_of_cell? _ _ q_p0)).trans q_p0
      replace q_p1 := (hbx.cell (show (⟨w.heap.size, 1, none⟩ : Addr).block < _ from World.block_lt_of_cell? _ _ q_p1)).trans q_p1
      replace q_p2 := (hbx.cell (show (⟨w.heap.size, 2, none⟩ : Addr).block < _ from World.block_lt_of_cell? _ _ q_p2)).trans q_p2
      replace q_p3 := (hbx.cell (show (⟨w.heap.size, 3, none⟩ : Addr).block < _ from World.block_lt_of_cell? _ _ q_p3)).trans q_p3
      replace q_p4 := (hbx.cell (show (⟨w.heap.size, 4, none⟩ : Addr).block < _ from World.block_lt_of_cell? _ _ q_p4)).trans q_p4
      replace q_q0 := (hbx.cell (show (⟨w.heap.size + 1, 0, none⟩ : Addr).block < _ from World.block_lt_of_cell? _ _ q_q0)).trans q_q0
      replace q_q1 := (hbx.cell (show (⟨w.heap.size + 1, 1, none⟩ : Addr).block < _ from World.block_lt_of_cell? _ _ q_q1)).trans q_q1
      replace q_q2 := (hbx.cell (show (⟨w.heap.size + 1, 2, none⟩ : Addr).block < _ from World.block_lt_of_cell? _ _ q_q2)).trans q_q2
      replace q_q3 := (hbx.cell (show (⟨w.heap.size + 1, 3, none⟩ : Addr).block < _ from World.block_lt_of_cell? _ _ q_q3)).trans q_q3
      replace q_q4 := (hbx.cell (show (⟨w.heap.size + 1, 4, none⟩ : Addr).block < _ from World.block_lt_of_cell? _ _ q_q4)).trans q_q4
      replace HRp := Lib.hid (ReadP.up HRp.out hbx)
      replace HB := Lib.hid (HB.out.trans (hbx.mono HB.out.size)); clear hbx hb
      cases e3 : alB (⟨set, scr, sty, img, non⟩ : Pol) kd h with
      | false =>
        have He3 := Lib.hid e3; clear e3
        go_wp2_with fail
        go_ret
        exact ⟨ret_iq (by unfold rqV; rw [if_pos He1.out, if_neg He2.out, if_neg (by rw [He3.out]; exact Bool.false_ne_true)]), HB.out⟩
      | true =>
        have He3 := Lib.hid e3; clear e3
        go_wp2_with fail
        go_ret
        exact ⟨ret_iq (by unfold rqV; rw [if_pos He1.out, if_neg He2.out, if_pos He3.out]), HB.out⟩

set_option maxRecDepth 100000 in
set_option maxHeartbeats 2000000 in
theorem chQ_impl (set : Bool) (scr sty img : List ByteArray) (non : ByteArray) (a1 : Option Addr) (n1 c1 : Nat) (a2 : Option Addr) (n2 c2 : Nat) (a3 : Option Addr) (n3 c3 : Nat) (kd : Int) (h p f g : ByteArray) (ok : RqOk h p f g) (w : World) (hr : ReadP w.heap.size w (.slice a1 n1 c1) (.slice a2 n2 c2) (.slice a3 n3 c3) ⟨set, scr, sty, img, non⟩) :
    Calls Tryz.prog 16 #[.agg #[.bool set, .slice a1 n1 c1, .slice a2 n2 c2, .slice a3 n3 c3, .string non], .agg #[.int .i64 kd, .string h, .string p, .string f, .string g]] w fun e w' => e = .returned (.int .i64 (rqV (⟨set, scr, sty, img, non⟩ : Pol) kd h p f g)) ∧ Below w.heap.size w w' := by
  have HRp := Lib.hid hr; clear hr
  obtain ⟨W0, hW⟩ : ∃ W, ((w.alloc (.cells #[.bool set, .slice a1 n1 c1, .slice a2 n2 c2, .slice a3 n3 c3, .string non] 26)).alloc (.cells #[.int .i64 kd, .string h, .string p, .string f, .string g] 30)) = W := ⟨_, rfl⟩
  have HB := Lib.hid (show Below w.heap.size w W0 by rw [← hW]; exact (((Below.refl w.heap.size w).alloc (by first | (simp; done) | (simp; omega)) _).alloc (by first | (simp; done) | (simp; omega)) _))
  have q_p0 : W0.cell? ⟨w.heap.size, 0, none⟩ = some (.bool set) := by rw [← hW]; simp
  have q_p1 : W0.cell? ⟨w.heap.size, 1, none⟩ = some (.slice a1 n1 c1) := by rw [← hW]; simp
  have q_p2 : W0.cell? ⟨w.heap.size, 2, none⟩ = some (.slice a2 n2 c2) := by rw [← hW]; simp
  have q_p3 : W0.cell? ⟨w.heap.size, 3, none⟩ = some (.slice a3 n3 c3) := by rw [← hW]; simp
  have q_p4 : W0.cell? ⟨w.heap.size, 4, none⟩ = some (.string non) := by rw [← hW]; simp
  have q_q0 : W0.cell? ⟨w.heap.size + 1, 0, none⟩ = some (.int .i64 kd) := by rw [← hW]; simp
  have q_q1 : W0.cell? ⟨w.heap.size + 1, 1, none⟩ = some (.string h) := by rw [← hW]; simp
  have q_q2 : W0.cell? ⟨w.heap.size + 1, 2, none⟩ = some (.string p) := by rw [← hW]; simp
  have q_q3 : W0.cell? ⟨w.heap.size + 1, 3, none⟩ = some (.string f) := by rw [← hW]; simp
  have q_q4 : W0.cell? ⟨w.heap.size + 1, 4, none⟩ = some (.string g) := by rw [← hW]; simp
  replace HRp := Lib.hid (ReadP.up HRp.out HB.out)
  have HW := Lib.hid hW; clear hW
  have HI := Lib.hid (fun X => isRq_impl kd h p f g ok X); have HA := Lib.hid (fun X hx => allows_impl set scr sty img non a1 n1 c1 a2 n2 c2 a3 n3 c3 kd h X hx)
  clear ok
  go_enter Tryz.func16, Tryz.ntmps16
  go_wp2_with fail
  rw [HW.out]
  refine (HI.out _).mono ?_
  rintro e w1 ⟨rfl, hb⟩
  have hbx := hb
  replace q_p0 := (hbx.cell (show (⟨w.heap.size, 0, none⟩ : Addr).block < _ from World.block_lt_of_cell? _ _ q_p0)).trans q_p0
  replace q_p1 := (hbx.cell (show (⟨w.heap.size, 1, none⟩ : Addr).block < _ from World.block_lt_of_cell? _ _ q_p1)).trans q_p1
  replace q_p2 := (hbx.cell (show (⟨w.heap.size, 2, none⟩ : Addr).block < _ from World.block_lt_of_cell? _ _ q_p2)).trans q_p2
  replace q_p3 := (hbx.cell (show (⟨w.heap.size, 3, none⟩ : Addr).block < _ from World.block_lt_of_cell? _ _ q_p3)).trans q_p3
  replace q_p4 := (hbx.cell (show (⟨w.heap.size, 4, none⟩ : Addr).block < _ from World.block_lt_of_cell? _ _ q_p4)).trans q_p4
  replace q_q0 := (hbx.cell (show (⟨w.heap.size + 1, 0, none⟩ : Addr).block < _ from World.block_lt_of_cell? _ _ q_q0)).trans q_q0
  replace q_q1 := (hbx.cell (show (⟨w.heap.size + 1, 1, none⟩ : Addr).block < _ from World.block_lt_of_cell? _ _ q_q1)).trans q_q1
  replace q_q2 := (hbx.cell (show (⟨w.heap.size + 1, 2, none⟩ : Addr).block < _ from World.block_lt_of_cell? _ _ q_q2)).trans q_q2
  replace q_q3 := (hbx.cell (show (⟨w.heap.size + 1, 3, none⟩ : Addr).block < _ from World.block_lt_of_cell? _ _ q_q3)).trans q_q3
  replace q_q4 := (hbx.cell (show (⟨w.heap.size + 1, 4, none⟩ : Addr).block < _ from World.block_lt_of_cell? _ _ q_q4)).trans q_q4
  replace HRp := Lib.hid (ReadP.up HRp.out hbx)
  replace HB := Lib.hid (HB.out.trans (hbx.mono HB.out.size)); clear hbx hb
  cases e1 : isRq kd h p f g with
  | false =>
    have He1 := Lib.hid e1; clear e1
    go_wp2_with fail
    go_ret
    exact ⟨ret_iq (by unfold rqV; rw [if_neg (by rw [He1.out]; exact Bool.false_ne_true)]), HB.out⟩
  | true =>
    have He1 := Lib.hid e1; clear e1
    by_cases e2 : kd = 1
    · have He2 := Lib.hid e2
      have x1 : (kd == 1) = true := beq_iff_eq.2 e2
      have x2 : (kd != 1) = false := by rw [bne, x1]; rfl
      clear e2
      go_wp2_with fail
      go_ret
      exact ⟨ret_iq (by unfold rqV; rw [if_pos He1.out, if_pos He2.out]), HB.out⟩
    · have He2 := Lib.hid e2
      have x1 : (kd == 1) = false := beq_eq_false_iff_ne.2 e2
      have x2 : (kd != 1) = true := by rw [bne, x1]; rfl
      clear e2
      go_wp2_with fail
      refine (HA.out _ HRp.out).mono ?_
      rintro e w2 ⟨rfl, hb⟩
      have hbx := hb.below
      replace q_p0 := (hbx.cell (show (⟨w.heap.size, 0, none⟩ : Addr).block < _ from World.block_lt_of_cell? _ _ q_p0)).trans q_p0
      replace q_p1 := (hbx.cell (show (⟨w.heap.size, 1, none⟩ : Addr).block < _ from World.block_lt_of_cell? _ _ q_p1)).trans q_p1
      replace q_p2 := (hbx.cell (show (⟨w.heap.size, 2, none⟩ : Addr).block < _ from World.block_lt_of_cell? _ _ q_p2)).trans q_p2
      replace q_p3 := (hbx.cell (show (⟨w.heap.size, 3, none⟩ : Addr).block < _ from World.block_lt_of_cell? _ _ q_p3)).trans q_p3
      replace q_p4 := (hbx.cell (show (⟨w.heap.size, 4, none⟩ : Addr).block < _ from World.block_lt_of_cell? _ _ q_p4)).trans q_p4
      replace q_q0 := (hbx.cell (show (⟨w.heap.size + 1, 0, none⟩ : Addr).block < _ from World.block_lt_of_cell? _ _ q_q0)).trans q_q0
      replace q_q1 := (hbx.cell (show (⟨w.heap.size + 1, 1, none⟩ : Addr).block < _ from World.block_lt_of_cell? _ _ q_q1)).trans q_q1
      replace q_q2 := (hbx.cell (show (⟨w.heap.size + 1, 2, none⟩ : Addr).block < _ from World.block_lt_of_cell? _ _ q_q2)).trans q_q2
      replace q_q3 := (hbx.cell (show (⟨w.heap.size + 1, 3, none⟩ : Addr).block < _ from World.block_lt_of_cell? _ _ q_q3)).trans q_q3
      replace q_q4 := (hbx.cell (show (⟨w.heap.size + 1, 4, none⟩ : Addr).block < _ from World.block_lt_of_cell? _ _ q_q4)).trans q_q4
      replace HRp := Lib.hid (ReadP.up HRp.out hbx)
      replace HB := Lib.hid (HB.out.trans (hbx.mono HB.out.size)); clear hbx hb
      cases e3 : alB (⟨set, scr, sty, img, non⟩ : Pol) kd h with
      | false =>
        have He3 := Lib.hid e3; clear e3
        go_wp2_with fail
        go_ret
        exact ⟨ret_iq (by unfold rqV; rw [if_pos He1.out, if_neg He2.out, if_neg (by rw [He3.out]; exact Bool.false_ne_true)]), HB.out⟩
      | true =>
        have He3 := Lib.hid e3; clear e3
        go_wp2_with fail
        go_ret
        exact ⟨ret_iq (by unfold rqV; rw [if_pos He1.out, if_neg He2.out, if_pos He3.out]), HB.out⟩

end Go.Proofs.YtkjjiinccljhjaaGreatDoor
namespace Go.Proofs.YtkjjiinccljhjaaGreatDoor
open Go.ChangeShapes Go.WideShapes Go.ChangeAt Go.RowKit

/-- A slice of strings of the call's own, wherever it begins in its block. -/
def OwnO (lo hi : Nat) (w : World) (v : Value) (xs : List ByteArray) : Prop :=
  ∃ (a : Option Addr) (c : Nat), v = .slice a xs.length c ∧ xs.length ≤ c ∧ c ≤ 9223372036854775807 ∧ (a = none → c = 0) ∧ (xs.length = 0 ∨ ∃ (g off : Nat) (cs : Array Value), a = some ⟨g, off, none⟩ ∧ lo ≤ g ∧ g < hi ∧ w.heap[g]? = some (.cells cs 9 (0, 0)) ∧ ∀ (j : Nat) (x : ByteArray), xs[j]? = some x → cs[off + j]? = some (.string x))
theorem OwnO.reads {lo hi : Nat} {w : World} {v : Value} {xs : List ByteArray} (h : OwnO lo hi w v xs) : ReadsK encS 1 hi w v xs := by
  obtain ⟨a, c, rfl, h1, h2, h3, h4⟩ := h
  refine ⟨a, c, rfl, h1, h2, h3, ?_⟩
  rcases h4 with h4 | ⟨g, off, cs, rfl, _, hg, hh, hc⟩
  · exact Or.inl h4
  · refine Or.inr ⟨g, off, rfl, hg, fun j x hj i hi' => ?_⟩
    obtain rfl : i = 0 := by omega
    rw [Nat.mul_one, Nat.add_zero]
    exact box_cell hh (hc j x hj)
theorem OwnO.later {lo hi : Nat} {w w' : World} {v : Value} {xs : List ByteArray} (h : OwnO lo hi w v xs) (hb : Below w.heap.size w w') : OwnO lo hi w' v xs := by
  obtain ⟨a, c, e, h1, h2, h3, h4⟩ := h
  refine ⟨a, c, e, h1, h2, h3, ?_⟩
  rcases h4 with h4 | ⟨g, off, cs, e2, hl, hg, hh, hc⟩
  · exact Or.inl h4
  · exact Or.inr ⟨g, off, cs, e2, hl, hg, below_heap hb (heap_lt hh) hh, hc⟩
theorem OwnO.mono {lo hi lo' hi' : Nat} {w : World} {v : Value} {xs : List ByteArray} (h : OwnO lo hi w v xs) (hl' : lo' ≤ lo) (hh' : hi ≤ hi') : OwnO lo' hi' w v xs := by
  obtain ⟨a, c, e, h1, h2, h3, h4⟩ := h
  refine ⟨a, c, e, h1, h2, h3, ?_⟩
  rcases h4 with h4 | ⟨g, off, cs, e2, hl, hg, hh, hc⟩
  · exact Or.inl h4
  · exact Or.inr ⟨g, off, cs, e2, Nat.le_trans hl' hl, Nat.lt_of_lt_of_le hg hh', hh, hc⟩
theorem OwnO.top {lo hi : Nat} {w : World} {v : Value} {xs : List ByteArray} (h : OwnO lo hi w v xs) : OwnO lo w.heap.size w v xs := by
  obtain ⟨a, c, e, h1, h2, h3, h4⟩ := h
  refine ⟨a, c, e, h1, h2, h3, ?_⟩
  rcases h4 with h4 | ⟨g, off, cs, e2, hl, hg, hh, hc⟩
  · exact Or.inl h4
  · exact Or.inr ⟨g, off, cs, e2, hl, heap_lt hh, hh, hc⟩
theorem ownO_none (lo hi : Nat) (w : World) : OwnO lo hi w (.slice none 0 0) [] := ⟨_, 0, rfl, Nat.le_refl _, by omega, (fun _ => rfl), Or.inl rfl⟩
/-- The blocks in which something of it lies. -/
def blkO (v : Value) (xs : List ByteArray) : List Nat := if xs.length = 0 then [] else v.ownBlock.toList
theorem OwnO.blk {lo hi : Nat} {w : World} {v : Value} {xs : List ByteArray} (h : OwnO lo hi w v xs) : ∀ b ∈ blkO v xs, lo ≤ b ∧ b < hi ∧ b < w.heap.size := by
  obtain ⟨a, c, rfl, h1, h2, h3, h4⟩ := h
  intro b hb
  unfold blkO at hb
  rcases h4 with h4 | ⟨g, off, cs, rfl, hl, hg, hh, hc⟩
  · rw [if_pos h4] at hb; cases hb
  · split at hb
    · cases hb
    · have : b = g := by simpa [Value.ownBlock] using hb
      subst this
      exact ⟨hl, hg, heap_lt hh⟩
theorem OwnO.only {lo hi : Nat} {w w' : World} {v : Value} {xs : List ByteArray} {bs : List Nat} (h : OwnO lo hi w v xs) (hb : OnlyB bs w w') (hn : ∀ b ∈ blkO v xs, b ∉ bs) : OwnO lo hi w' v xs := by
  obtain ⟨a, c, rfl, h1, h2, h3, h4⟩ := h
  refine ⟨a, c, rfl, h1, h2, h3, ?_⟩
  rcases h4 with h4 | ⟨g, off, cs, rfl, hl, hg, hh, hc⟩
  · exact Or.inl h4
  · by_cases h0 : xs.length = 0
    · exact Or.inl h0
    · refine Or.inr ⟨g, off, cs, rfl, hl, hg, ?_, hc⟩
      rw [hb.block g (heap_lt hh) (hn g (by unfold blkO; rw [if_neg h0]; simp [Value.ownBlock]))]; exact hh
/-- What lies behind the first. -/
theorem OwnO.tail {lo hi n c g : Nat} {w : World} {x : ByteArray} {xs : List ByteArray} (h : OwnK encS 1 9 lo hi w (.slice (some ⟨g, 0, none⟩) n c) (x :: xs)) : OwnO lo hi w (if c = 1 then .slice (some ⟨g, 0, none⟩) (n - 1) (c - 1) else .slice (some ⟨g, 1, none⟩) (n - 1) (c - 1)) xs := by
  obtain ⟨hrow, hlt⟩ := h
  have hrl := hrow.1
  rcases hrow.2 with ⟨e, _⟩ | ⟨g', cap, cur, e, hg, hh, hcap, hm, hsz, htk⟩
  · cases e
  · unfold maxLen at hm
    injection e with e1 e2 e3
    injection e1 with e1
    injection e1 with e1
    subst e1; subst e3
    have hn : n = xs.length + 1 := by rw [e2]; rfl
    subst hn
    rw [Nat.add_sub_cancel]
    rw [flatS] at htk
    have hcl : ∀ (j : Nat) (y : ByteArray), xs[j]? = some y → cur[1 + j]? = some (.string y) := fun j y hj => by
      have h1 : ((x :: xs).map Value.string)[1 + j]? = some (.string y) := by rw [Nat.add_comm, List.map_cons, List.getElem?_cons_succ, List.getElem?_map, hj]; rfl
      rw [← htk, List.getElem?_take] at h1
      split at h1
      · rw [Array.getElem?_toList] at h1; exact h1
      · cases h1
    by_cases h1 : c = 1
    · subst h1
      rw [if_pos rfl]
      have : xs = [] := List.eq_nil_of_length_eq_zero (by omega)
      subst this
      exact ⟨_, 0, rfl, Nat.le_refl _, by omega, (fun h => by cases h), Or.inl rfl⟩
    · rw [if_neg h1]
      exact ⟨_, c - 1, rfl, by omega, by omega, (fun h => by cases h), Or.inr ⟨g, 1, cur, rfl, hg, hlt g rfl, hh, hcl⟩⟩
/-- A new slice of strings, wherever it begins in its block. -/
def NewO (xs : List ByteArray) (X : World) (e : Ending) (w' : World) : Prop := ∃ (a : Option Addr) (n c : Nat), e = .returned (.slice a n c) ∧ OwnO X.heap.size w'.heap.size w' (.slice a n c) xs ∧ Below X.heap.size X w'

end Go.Proofs.YtkjjiinccljhjaaGreatDoor
namespace Go.Proofs.YtkjjiinccljhjaaGreatDoor
open Go.ChangeShapes Go.WideShapes Go.ChangeAt Go.RowKit

/-- What a slice of this type holds. -/
def IsTokenS (x : Rw) : Prop := ∃ v n e cs, x = .sl v n 4 e cs ∧ ∀ j, j < n → ∃ (a0 : Int) (a1 : ByteArray) (a2 : Rw) (a3 : ByteArray), cs[j * 4]? = some (.leaf (.int .i64 a0)) ∧ cs[j * 4 + 1]? = some (.leaf (.string a1)) ∧ cs[j * 4 + 2]? = some a2 ∧ IsAttrS a2 ∧ cs[j * 4 + 3]? = some (.leaf (.string a3))
theorem is_sl_TokenS {x : Rw} (h : IsTokenS x) : ∃ v n k e cs, x = .sl v n k e cs := by
  obtain ⟨v, n, e, cs, rfl, _⟩ := h
  exact ⟨v, n, _, e, cs, rfl⟩

end Go.Proofs.YtkjjiinccljhjaaGreatDoor
namespace Go.Proofs.YtkjjiinccljhjaaGreatDoor
open Go.ChangeShapes Go.WideShapes Go.ChangeAt Go.RowKit

abbrev At := ByteArray × ByteArray
def encA (a : At) : List Value := [.string a.1, .string a.2]
theorem encA_len (a : At) : (encA a).length = 2 := rfl
theorem encA_one (a : At) : ∀ u ∈ encA a, u.oneCell' = true := by
  intro u hu
  simp only [encA, List.mem_cons, List.mem_nil_iff, or_false] at hu
  rcases hu with rfl | rfl <;> rfl
theorem infoAt : (Tryz.prog.info? 205).map (fun i => (i.zero, i.size, i.bytes)) = some (some (.agg #[.string ⟨#[]⟩, .string ⟨#[]⟩]), 2, 32) := by kernel_rfl
theorem infoTk : (Tryz.prog.info? 184).map (fun i => (i.zero, i.size, i.bytes)) = some (some (.agg #[.int .i64 0, .string ⟨#[]⟩, .slice none 0 0, .string ⟨#[]⟩]), 4, 64) := by kernel_rfl
theorem at_at {xs : List At} {j : Nat} (h : j < xs.length) : ∃ a b, xs[j]? = some (a, b) := ⟨xs[j].1, xs[j].2, List.getElem?_eq_getElem h⟩

def atCells : List At → List Rw
  | [] => []
  | a :: ats => .leaf (.string a.1) :: .leaf (.string a.2) :: atCells ats
/-- A slice of attributes. -/
def rwA (v : Value) (ats : List At) : Rw := .sl v ats.length 2 205 (atCells ats)
theorem rwA_cell (v : Value) (ats : List At) : (rwA v ats).cell = v := rfl
theorem atCells_map : ∀ ats : List At, (atCells ats).map Rw.cell = ats.flatMap encA
  | [] => rfl
  | a :: ats => by
    rw [atCells, List.map_cons, List.map_cons, atCells_map ats, List.flatMap_cons]; rfl
theorem atCells_len : ∀ ats : List At, (atCells ats).length = ats.length * 2
  | [] => rfl
  | a :: ats => by rw [atCells, List.length_cons, List.length_cons, atCells_len ats, List.length_cons]; omega
theorem atCells_at : ∀ {ats : List At} {j : Nat} {a : At}, ats[j]? = some a → (atCells ats)[j * 2]? = some (.leaf (.string a.1)) ∧ (atCells ats)[j * 2 + 1]? = some (.leaf (.string a.2))
  | [], j, a, h => by simp at h
  | b :: ats, 0, a, h => by
    have : b = a := by simpa using h
    subst this; exact ⟨rfl, rfl⟩
  | b :: ats, j + 1, a, h => by
    have ih := atCells_at (ats := ats) (j := j) (by simpa using h)
    rw [show (j + 1) * 2 = j * 2 + 1 + 1 by omega, atCells]
    simpa using ih
theorem atCells_leaf : ∀ {ats : List At}, ∀ c ∈ atCells ats, ∃ s, c = .leaf (.string s)
  | [], c, h => by cases h
  | a :: ats, c, h => by
    rw [atCells] at h
    rcases List.mem_cons.1 h with h | h
    · exact ⟨_, h⟩
    · rcases List.mem_cons.1 h with h | h
      · exact ⟨_, h⟩
      · exact atCells_leaf c h
theorem atCells_blocks (ats : List At) : blocksL (atCells ats) = [] := blocksL_nil fun c hc => by
  obtain ⟨s, rfl⟩ := atCells_leaf c hc
  rw [Rw.blocks]
theorem rwA_blocks (v : Value) (ats : List At) : (rwA v ats).blocks = v.ownBlock.toList := by rw [rwA, Rw.blocks, atCells_blocks, List.append_nil]
theorem rwA_is (v : Value) (ats : List At) : IsAttrS (rwA v ats) :=
  ⟨v, ats.length, _, atCells ats, rfl, fun j hj => by
    obtain ⟨a, b, h⟩ := at_at hj
    obtain ⟨h1, h2⟩ := atCells_at h
    exact ⟨a, b, h1, h2⟩⟩
theorem rwA_own {lo hi : Nat} {w : World} {v : Value} {ats : List At} (h : OwnK encA 2 205 lo hi w v ats) : (rwA v ats).OwnR lo hi w := by
  rw [rwA, Rw.OwnR]
  exact ⟨by rw [atCells_map]; exact h, ownRL_iff.2 fun c hc => by obtain ⟨s, rfl⟩ := atCells_leaf c hc; rw [Rw.OwnR]; rfl⟩
theorem rwA_reads {hi : Nat} {w : World} {v : Value} {ats : List At} (h : ReadsK encA 2 hi w v ats) : (rwA v ats).ReadR hi w := by
  rw [rwA, Rw.ReadR]
  have h0 := h
  obtain ⟨a, cap, rfl, h1, h2, h3, h4⟩ := h
  refine ⟨⟨a, cap, rfl, atCells_len ats, h1, h2, h3, ?_⟩, readRL_iff.2 fun c hc => by obtain ⟨s, rfl⟩ := atCells_leaf c hc; rw [Rw.ReadR]; rfl⟩
  rcases h4 with h4 | ⟨g, off, rfl, hg, hc⟩
  · exact Or.inl h4
  · refine Or.inr ⟨g, off, rfl, hg, fun j c hj => ?_⟩
    rw [atCells_map] at hj
    have := h0.news encA_len j c hj
    rwa [add_off] at this
theorem rwA_data (v u : Value) (ats : List At) : (rwA v ats).data = (rwA u ats).data := by rw [rwA, rwA, Rw.data, Rw.data]
theorem attrs_of_data {x : Rw} {u : Value} {ats : List At} {hi : Nat} {w : World} (h : x.data = (rwA u ats).data) (hr : x.ReadR hi w) : ReadsK encA 2 hi w x.cell ats := by
  cases x with
  | leaf v => rw [rwA, Rw.data, Rw.data] at h; cases h
  | sl v n k e cs =>
    rw [rwA, Rw.data, Rw.data] at h
    obtain ⟨rfl, hd⟩ := Dt.sl.inj h
    have hl : cs.length = ats.length * 2 := by have := congrArg List.length hd; rwa [dataL_len, dataL_len, atCells_len] at this
    rw [Rw.ReadR] at hr
    obtain ⟨⟨a, cap, rfl, h1, h2, h3, h4, h5⟩, _⟩ := hr
    have hn : n = ats.length := by omega
    subst hn
    refine ⟨a, cap, rfl, h2, h3, h4, ?_⟩
    rcases h5 with h5 | ⟨g, off, rfl, hg, hc⟩
    · exact Or.inl h5
    · refine Or.inr ⟨g, off, rfl, hg, fun j y hj i hi' => ?_⟩
      obtain ⟨k1, k2⟩ := atCells_at hj
      have hjl := (List.getElem?_eq_some_iff.1 hj).1
      have one : ∀ (m : Nat) (s : ByteArray), m < cs.length → (atCells ats)[m]? = some (.leaf (.string s)) → w.cell? ⟨g, off + m, none⟩ = some (.string s) := by
        intro m s hm hs
        obtain ⟨c, hcm⟩ : ∃ c, cs[m]? = some c := ⟨_, List.getElem?_eq_getElem hm⟩
        have e1 := leaf_of_data (data_same hd hcm hs)
        refine hc m _ ?_
        rw [List.getElem?_map, hcm, e1]; rfl
      rcases (show i = 0 ∨ i = 1 by omega) with rfl | rfl
      · exact one (j * 2) _ (by omega) k1
      · rw [Nat.add_assoc]; exact one (j * 2 + 1) _ (by omega) k2

/-- Where a slice of attributes lies. -/
abbrev Sv := Option Addr × Nat × Nat
def sv (s : Sv) : Value := .slice s.1 s.2.1 s.2.2
def svNil : Sv := (none, 0, 0)
theorem OwnK.sv {α : Type} {enc : α → List Value} {k : Nat} {e : TypeId} {lo hi : Nat} {w : World} {v : Value} {xs : List α} (h : OwnK enc k e lo hi w v xs) : ∃ s, v = sv s := by
  rcases h.1.2 with ⟨rfl, _⟩ | ⟨g, cap, cur, rfl, _⟩
  · exact ⟨svNil, rfl⟩
  · exact ⟨(_, _, _), rfl⟩
theorem ownK_nil {α : Type} (enc : α → List Value) (k : Nat) (e : TypeId) (lo hi : Nat) (w : World) : OwnK enc k e lo hi w (.slice none 0 0) [] :=
  ⟨World.ownsRow_nil _ _ _ _, fun g hg => by cases hg⟩
/-- A token and where its attributes lie. -/
abbrev Tv := Tok × Sv
def tokV (p : Tv) : Value := .agg #[.int .i64 p.1.kind, .string p.1.name, sv p.2, .string p.1.text]
def encT (p : Tv) : List Value := [.int .i64 p.1.kind, .string p.1.name, sv p.2, .string p.1.text]
theorem encT_len (p : Tv) : (encT p).length = 4 := rfl
theorem encT_one (p : Tv) : ∀ u ∈ encT p, u.oneCell' = true := by
  intro u hu
  simp only [encT, List.mem_cons, List.mem_nil_iff, or_false] at hu
  rcases hu with rfl | rfl | rfl | rfl <;> rfl
def tkCells : List Tv → List Rw
  | [] => []
  | p :: ts => .leaf (.int .i64 p.1.kind) :: .leaf (.string p.1.name) :: rwA (sv p.2) p.1.attrs :: .leaf (.string p.1.text) :: tkCells ts
/-- A slice of tokens. -/
def rwT (v : Value) (ts : List Tv) : Rw := .sl v ts.length 4 184 (tkCells ts)
theorem rwT_cell (v : Value) (ts : List Tv) : (rwT v ts).cell = v := rfl
def insB (ts : List Tv) : List Nat := ts.flatMap fun p => (sv p.2).ownBlock.toList
theorem tkCells_map : ∀ ts : List Tv, (tkCells ts).map Rw.cell = ts.flatMap encT
  | [] => rfl
  | p :: ts => by
    rw [tkCells, List.map_cons, List.map_cons, List.map_cons, List.map_cons, tkCells_map ts, List.flatMap_cons]; rfl
theorem tkCells_len : ∀ ts : List Tv, (tkCells ts).length = ts.length * 4
  | [] => rfl
  | p :: ts => by rw [tkCells, List.length_cons, List.length_cons, List.length_cons, List.length_cons, tkCells_len ts, List.length_cons]; omega
theorem tkCells_at : ∀ {ts : List Tv} {j : Nat} {p : Tv}, ts[j]? = some p → (tkCells ts)[j * 4]? = some (.leaf (.int .i64 p.1.kind)) ∧ (tkCells ts)[j * 4 + 1]? = some (.leaf (.string p.1.name)) ∧ (tkCells ts)[j * 4 + 2]? = some (rwA (sv p.2) p.1.attrs) ∧ (tkCells ts)[j * 4 + 3]? = some (.leaf (.string p.1.text))
  | [], j, p, h => by simp at h
  | q :: ts, 0, p, h => by
    have : q = p := by simpa using h
    subst this; exact ⟨rfl, rfl, rfl, rfl⟩
  | q :: ts, j + 1, p, h => by
    have ih := tkCells_at (ts := ts) (j := j) (by simpa using h)
    rw [show (j + 1) * 4 = j * 4 + 1 + 1 + 1 + 1 by omega, tkCells]
    simpa using ih
theorem tkCells_mem : ∀ {ts : List Tv}, ∀ c ∈ tkCells ts, (∃ v, c = .leaf v ∧ v.oneCell' = true) ∨ ∃ p ∈ ts, c = rwA (sv p.2) p.1.attrs
  | [], c, h => by cases h
  | p :: ts, c, h => by
    rw [tkCells] at h
    rcases List.mem_cons.1 h with h | h
    · exact Or.inl ⟨_, h, rfl⟩
    rcases List.mem_cons.1 h with h | h
    · exact Or.inl ⟨_, h, rfl⟩
    rcases List.mem_cons.1 h with h | h
    · exact Or.inr ⟨p, List.mem_cons_self, h⟩
    rcases List.mem_cons.1 h with h | h
    · exact Or.inl ⟨_, h, rfl⟩
    rcases tkCells_mem c h with h | ⟨q, hq, e⟩
    · exact Or.inl h
    · exact Or.inr ⟨q, List.mem_cons_of_mem _ hq, e⟩
theorem tkCells_blocks : ∀ ts : List Tv, blocksL (tkCells ts) = insB ts
  | [] => rfl
  | p :: ts => by
    rw [tkCells, blocksL, blocksL, blocksL, blocksL, tkCells_blocks ts, Rw.blocks, Rw.blocks, Rw.blocks, rwA_blocks, insB, insB, List.flatMap_cons]
    rfl
theorem insB_append (ts us : List Tv) : insB (ts ++ us) = insB ts ++ insB us := by unfold insB; rw [List.flatMap_append]
theorem insB_mem {ts : List Tv} {b : Nat} : b ∈ insB ts ↔ ∃ p ∈ ts, (sv p.2).ownBlock = some b := by
  unfold insB
  rw [List.mem_flatMap]
  constructor
  · rintro ⟨p, hp, hb⟩
    exact ⟨p, hp, by simpa using hb⟩
  · rintro ⟨p, hp, hb⟩
    exact ⟨p, hp, by simpa using hb⟩
theorem rwT_is (v : Value) (ts : List Tv) : IsTokenS (rwT v ts) :=
  ⟨v, ts.length, _, tkCells ts, rfl, fun j hj => by
    obtain ⟨p, h⟩ : ∃ p, ts[j]? = some p := ⟨_, List.getElem?_eq_getElem hj⟩
    obtain ⟨h1, h2, h3, h4⟩ := tkCells_at h
    exact ⟨_, _, _, _, h1, h2, h3, rwA_is _ _, h4⟩⟩
theorem tkCells_data : ∀ {ts us : List Tv}, ts.map Prod.fst = us.map Prod.fst → dataL (tkCells ts) = dataL (tkCells us)
  | [], [], _ => rfl
  | [], u :: us, h => by simp at h
  | t :: ts, [], h => by simp at h
  | t :: ts, u :: us, h => by
    rw [List.map_cons, List.map_cons] at h
    obtain ⟨h1, h2⟩ := List.cons.inj h
    rw [tkCells, tkCells, dataL, dataL, dataL, dataL, dataL, dataL, dataL, dataL, tkCells_data h2, h1, rwA_data]
theorem rwT_data (v u : Value) {ts us : List Tv} (h : ts.map Prod.fst = us.map Prod.fst) : (rwT v ts).data = (rwT u us).data := by
  rw [rwT, rwT, Rw.data, Rw.data, tkCells_data h]
theorem rwT_count {ts us : List Tv} (h : ts.map Prod.fst = us.map Prod.fst) : ts.length = us.length := by
  have := congrArg List.length h
  simpa using this
theorem rows_ne {w : World} {B B' k k' n n' : Nat} {e e' : TypeId} {v v' : Value} {xs xs' : List Value} (h : w.ownsRow B e k v n xs) (h' : w.ownsRow B' e' k' v' n' xs') (hne : e ≠ e') {g : Nat} (hv : v.ownBlock = some g) : v'.ownBlock ≠ some g := by
  intro hv'
  rcases h.2 with ⟨rfl, _⟩ | ⟨a, cap, cur, rfl, _, h1, _⟩
  · cases hv
  · rcases h'.2 with ⟨rfl, _⟩ | ⟨b, cap', cur', rfl, _, h2, _⟩
    · cases hv'
    · have e1 : a = g := Option.some.inj hv
      have e2 : b = g := Option.some.inj hv'
      subst e1; subst e2
      rw [h1] at h2
      injection h2 with h3
      injection h3 with _ h4 _
      exact hne h4
theorem tk_ne_at : 184 ≠ 205 := by decide

/-- A slice of tokens of the call's own, with all that they hold, in blocks from B on, while of what lay below B nothing was written. -/
structure MineT (B : Nat) (w0 w : World) (v : Value) (ts : List Tv) : Prop where
  row : MineK encT 4 184 B w0 w v ts
  inn : ∀ p ∈ ts, OwnK encA 2 205 B w.heap.size w (sv p.2) p.1.attrs
  nod : (insB ts).Nodup
theorem MineT.own {B : Nat} {w0 w : World} {v : Value} {ts : List Tv} (h : MineT B w0 w v ts) : (rwT v ts).OwnR B w.heap.size w := by
  rw [rwT, Rw.OwnR]
  refine ⟨⟨by rw [tkCells_map]; exact h.row.row, fun g hg => (h.row.row.lt g hg).2⟩, ownRL_iff.2 fun c hc => ?_⟩
  rcases tkCells_mem c hc with ⟨u, rfl, hu⟩ | ⟨p, hp, rfl⟩
  · rw [Rw.OwnR]; exact hu
  · exact rwA_own (h.inn p hp)
theorem MineT.nodup {B : Nat} {w0 w : World} {v : Value} {ts : List Tv} (h : MineT B w0 w v ts) : (rwT v ts).blocks.Nodup := by
  rw [rwT, Rw.blocks, tkCells_blocks]
  cases hv : v.ownBlock with
  | none => exact h.nod
  | some g =>
    refine List.nodup_cons.2 ⟨fun hg => ?_, h.nod⟩
    obtain ⟨p, hp, hb⟩ := insB_mem.1 hg
    exact rows_ne h.row.row (h.inn p hp).1 tk_ne_at hv hb
theorem MineT.later {B : Nat} {w0 w w' : World} {v : Value} {ts : List Tv} (h : MineT B w0 w v ts) (hb : Below w.heap.size w w') : MineT B w0 w' v ts :=
  ⟨h.row.later hb, fun p hp => ((h.inn p hp).later hb).mono (Nat.le_refl _) hb.size, h.nod⟩
theorem MineT.empty (w0 w : World) (B : Nat) (hb : Below B w0 w) (hB : B ≤ w.heap.size) : MineT B w0 (w.alloc (.cells #[] 184)) (.slice (some ⟨w.heap.size, 0, none⟩) 0 0) [] :=
  ⟨MineK.empty _ _ _ _ _ _ hb hB, fun p hp => (by cases hp), List.nodup_nil⟩
theorem MineT.lt {B : Nat} {w0 w : World} {v : Value} {ts : List Tv} (h : MineT B w0 w v ts) : ∀ b ∈ insB ts, B ≤ b ∧ b < w.heap.size := by
  intro b hb
  obtain ⟨p, hp, e⟩ := insB_mem.1 hb
  exact ⟨((h.inn p hp).1.lt b e).1, ((h.inn p hp).1.lt b e).2⟩
/-- One token in a new block: what append takes. -/
theorem readsT_one (w : World) (p : Tv) {k : Int} {nm tx : ByteArray} {u : Value} (h1 : p.1.kind = k) (h2 : p.1.name = nm) (h3 : sv p.2 = u) (h4 : p.1.text = tx) :
    ReadsK encT 4 (w.heap.size + 1) (w.alloc (.cells #[.int .i64 k, .string nm, u, .string tx] 184)) (.slice (some ⟨w.heap.size, 0, none⟩) 1 1) [p] := by
  subst h1; subst h2; subst h3; subst h4
  refine ⟨_, 1, rfl, by simp, by omega, (fun h => by cases h), Or.inr ⟨_, 0, rfl, by omega, fun j y hy i hi' => ?_⟩⟩
  have hj : j = 0 := by have := (List.getElem?_eq_some_iff.1 hy).1; simp at this; omega
  subst hj
  simp only [List.getElem?_cons_zero, Option.some.injEq] at hy
  subst hy
  rcases (show i = 0 ∨ i = 1 ∨ i = 2 ∨ i = 3 by omega) with rfl | rfl | rfl | rfl <;> simp [encT]
/-- append to such a slice, of whatever reads as tokens whose attributes the call owns. -/
theorem wpList_appT {w : World} {ops : Array Oper} {rest : List Oper} {o : Oper} {a : Act} {Q : Exit → Act → World → Prop} (hgd : o.guard = none) (s x : Operand)
    (ho : o.op = .call { callee := .builtin .append, args := #[s, x], argTypes := #[228, 228] })
    (B : Nat) (w0 : World) (v : Value) (ts : List Tv) (hs : a.eval s = v) (hM : MineT B w0 w v ts) (vx : Value) (top : Nat) (us : List Tv) (hx : a.eval x = vx) (hr : ReadsK encT 4 top w vx us)
    (hin : ∀ p ∈ us, OwnK encA 2 205 B w.heap.size w (sv p.2) p.1.attrs) (hnd : (insB ts ++ insB us).Nodup)
    (hlen : ts.length + us.length ≤ 137438953472)
    (h : ∀ v' w', MineT B w0 w' v' (ts ++ us) → wpList Tryz.prog ops Q rest (a.put o.dst v') w') : wpList Tryz.prog ops Q (o :: rest) a w := by
  obtain ⟨i, hi, hz, hsize, hby⟩ := info_parts infoTk
  obtain ⟨ad, cap, rfl, h1, h2, h3, h4⟩ := id hr
  cases ad with
  | none =>
    obtain ⟨rfl, _, rfl⟩ := hr.nil
    refine wpList_append_own_none hgd s x _ ho B _ i 4 Tryz.underlying228 hi v ts.length _ hs hM.row.row hx ?_
    exact h v w (by simpa using hM)
  | some ad =>
    refine wpList_append_own _ hgd s x _ ho B _ i _ 4 64 Tryz.underlying228 hi hz hsize hby (by rfl) (by decide) v ts.length _ hs hM.row.row ad us.length cap (us.flatMap encT) hx (flat_len encT_len us) (hr.news encT_len) ?_ ?_ ?_ hM.row.size ?_
    · intro u hu
      obtain ⟨y, _, hy⟩ := List.mem_flatMap.1 hu
      exact encT_one y u hy
    · unfold maxLen; omega
    · have : (ts.length + us.length) * 64 ≤ (ts.length + us.length) * 1024 := Nat.mul_le_mul_left _ (by omega)
      omega
    · intro v' w' hown hgr hn
      refine h v' w' ⟨hM.row.grow hown hgr, fun p hp => ?_, by rw [insB_append]; exact hnd⟩
      have hall : OwnK encA 2 205 B w.heap.size w (sv p.2) p.1.attrs := by
        rcases List.mem_append.1 hp with h | h
        · exact hM.inn p h
        · exact hin p h
      refine ⟨hall.1.kept hgr ?_, fun g hg => Nat.lt_of_lt_of_le (hall.2 g hg) hgr.size⟩
      cases hv : (sv p.2).ownBlock with
      | none => exact Or.inl rfl
      | some g =>
        right
        intro e
        exact rows_ne hM.row.row hall.1 tk_ne_at e.symm hv
theorem readsT_of {hi : Nat} {w : World} {v : Value} {B : Nat} {w0 : World} {ts : List Tv} (h : MineT B w0 w v ts) (hh : w.heap.size ≤ hi) : ReadsK encT 4 hi w v ts := (h.row.own.reads encT_len).mono hh

end Go.Proofs.YtkjjiinccljhjaaGreatDoor
namespace Go.Proofs.YtkjjiinccljhjaaGreatDoor
open Go.ChangeShapes Go.WideShapes Go.ChangeAt Go.RowKit

/-- append of attributes to a slice of the call's own. -/
theorem wpList_appA {w : World} {ops : Array Oper} {rest : List Oper} {o : Oper} {a : Act} {Q : Exit → Act → World → Prop} (hgd : o.guard = none) (s x : Operand)
    (ho : o.op = .call { callee := .builtin .append, args := #[s, x], argTypes := #[146, 146] })
    (B : Nat) (w0 : World) (v : Value) (xs : List At) (hs : a.eval s = v) (hM : MineK encA 2 205 B w0 w v xs) (vx : Value) (top : Nat) (ys : List At) (hx : a.eval x = vx) (hr : ReadsK encA 2 top w vx ys)
    (hlen : xs.length + ys.length ≤ 137438953472)
    (h : ∀ v' w', MineK encA 2 205 B w0 w' v' (xs ++ ys) → wpList Tryz.prog ops Q rest (a.put o.dst v') w') : wpList Tryz.prog ops Q (o :: rest) a w := by
  obtain ⟨i, hi, hz, hsize, hby⟩ := info_parts infoAt
  exact wpList_appK hgd s x _ ho encA_len encA_one (by decide) _ i _ 32 Tryz.underlying146 hi hz hsize hby (by rfl) B w0 v xs hs hM vx top ys hx hr (by omega) hlen fun v' w' hM' _ => h v' w' hM'

end Go.Proofs.YtkjjiinccljhjaaGreatDoor
namespace Go.Proofs.YtkjjiinccljhjaaGreatDoor
open Go.ChangeShapes Go.WideShapes Go.ChangeAt Go.RowKit

theorem indexByte_idx (c : UInt8) : ∀ l : List UInt8, Lib.indexByte l c = if idxB c l < l.length then (idxB c l : Int) else -1
  | [] => rfl
  | b :: l => by
    have ih := indexByte_idx c l
    have hle := idxB_le c l
    unfold Lib.indexByte idxB
    by_cases h : b = c
    · rw [if_pos (by simpa using h), if_pos h, if_pos (by simp)]; rfl
    · rw [if_neg (by simpa using h), if_neg h, ih]
      by_cases h2 : idxB c l < l.length
      · rw [if_pos h2, if_neg (by simp <;> omega), if_pos (by simp <;> omega)]; omega
      · rw [if_neg h2, if_pos (by rfl), if_neg (by simp <;> omega)]
theorem index_idx (c : UInt8) : ∀ l : List UInt8, Lib.index l [c] = if idxB c l < l.length then (idxB c l : Int) else -1
  | [] => rfl
  | b :: l => by
    have ih := index_idx c l
    have hle := idxB_le c l
    unfold idxB
    by_cases h : b = c
    · subst h
      rw [if_pos rfl, if_pos (by simp), Lib.index]; simp [List.isPrefixOf]
    · have hp : ([c] : List UInt8).isPrefixOf (b :: l) = false := by simp [List.isPrefixOf, Ne.symm h]
      have hix : Lib.index (b :: l) [c] = if Lib.index l [c] == -1 then -1 else Lib.index l [c] + 1 := by rw [Lib.index, hp]; simp
      rw [if_neg h, hix, ih]
      by_cases h2 : idxB c l < l.length
      · rw [if_pos h2, if_neg (by simp <;> omega), if_pos (by simp <;> omega)]; omega
      · rw [if_neg h2, if_pos (by rfl), if_neg (by simp <;> omega)]
theorem indexByte_index (c : UInt8) (l : List UInt8) : Lib.indexByte l c = Lib.index l [c] := by rw [indexByte_idx, index_idx]
theorem idx_split {c : UInt8} {l : List UInt8} (h : idxB c l < l.length) : splitB c l = l.take (idxB c l) :: splitB c (l.drop (idxB c l + 1)) := by
  have := split_round (c := c) (l := l) (a := 0) (Nat.zero_le _) (idxB_at h) fun j _ hj => idxB_before hj
  rwa [List.drop_zero, Nat.sub_zero] at this
theorem idx_split_none {c : UInt8} {l : List UInt8} (h : ¬ idxB c l < l.length) : splitB c l = [l] := by
  have := split_last (c := c) (l := l) (a := 0) fun j _ hj => by
    have hjl := (List.getElem?_eq_some_iff.1 hj).1
    exact idxB_before (by omega) hj
  rwa [List.drop_zero] at this
theorem splitK_mine (c : UInt8) (l : List UInt8) : Lib.splitK [c] 0 (Lib.count l [c]) l = splitB c l := by
  generalize hn : l.length = n
  induction n using Nat.strongRecOn generalizing l with
  | _ n ih =>
    by_cases h : idxB c l < l.length
    · have hix : Lib.index l [c] = ((idxB c l : Nat) : Int) := by rw [index_idx, if_pos h]
      rw [Lib.count_hit (by simp) hix, Nat.add_comm, Lib.splitK, if_neg (by rw [hix]; simp <;> omega), hix, idx_split h]
      rw [show ((idxB c l : Nat) : Int).toNat = idxB c l from rfl, Nat.add_zero, show ([c] : List UInt8).length = 1 from rfl]
      rw [ih (l.drop (idxB c l + 1)).length (by rw [List.length_drop]; omega) _ rfl]
    · have hix : Lib.index l [c] = -1 := by rw [index_idx, if_neg h]
      rw [Lib.count_miss hix, Lib.splitK, idx_split_none h]
theorem splitB_mine (c : UInt8) (s : ByteArray) : Lib.splitB ⟨#[c]⟩ 0 (Lib.countB s ⟨#[c]⟩) s = splS c s.data.toList := by
  have h := Lib.splitB_data ⟨#[c]⟩ 0 (Lib.countB s ⟨#[c]⟩) s
  have e : Lib.countB s ⟨#[c]⟩ = Lib.count s.data.toList [c] := rfl
  rw [e] at h ⊢
  rw [show (⟨#[c]⟩ : ByteArray).data.toList = [c] from rfl, splitK_mine] at h
  unfold splS
  rw [← h, List.map_map]
  conv => lhs; rw [← List.map_id (Lib.splitB _ _ _ _)]
  exact List.map_congr_left fun x _ => (ofL_of x).symm

/-- What Cut returns at one byte. -/
def cutC (c : UInt8) (s : ByteArray) : Value :=
  if idxB c s.data.toList < s.size then .tuple #[.string (s.extract 0 (idxB c s.data.toList)), .string (s.extract (idxB c s.data.toList + 1) s.size), .bool true]
  else .tuple #[.string s, .string ⟨#[]⟩, .bool false]

set_option maxHeartbeats 1000000 in
theorem lcutC_any (c : UInt8) (s : ByteArray) (hs : s.size ≤ 4611686018427387904) (w : World) :
    Calls Tryz.prog 208 #[.string s, .string ⟨#[c]⟩] w fun e w' => e = .returned (cutC c s) ∧ ∃ n, w' = w.drewN n := by
  have hix := indexByte_idx c s.data.toList
  rw [size_list] at hix
  by_cases h1 : idxB c s.data.toList < s.size
  · have HV := Lib.hid (show cutC c s = _ from by unfold cutC; rw [if_pos h1])
    rw [if_pos h1] at hix
    obtain ⟨i, hi⟩ : ∃ i, idxB c s.data.toList = i := ⟨_, rfl⟩
    rw [hi] at hix h1 HV
    have HI := Lib.hid hix
    clear hix hi
    have c1 : (0 : Int) ≤ ↑i := by omega
    have c2 : (↑i : Int) ≤ ↑s.size := by omega
    have c3 : (0 : Int) ≤ ↑i + 1 := by omega
    have c4 : (↑i + 1 : Int) ≤ ↑s.size := by omega
    go_enter Tryz.func208, Tryz.ntmps208
    go_wp2_with fail
    refine (Tryz.stringslite_Index_one s c _).mono ?_
    rintro e w' ⟨rfl, rfl⟩
    rw [HI.out]
    go_wp2_with fail
    go_quiet (fail)
    go_wp2
    go_ret3
    exact ⟨by rw [HV.out]; rfl, _, rfl⟩
  · have HV := Lib.hid (show cutC c s = _ from by unfold cutC; rw [if_neg h1])
    rw [if_neg h1] at hix
    have HI := Lib.hid hix
    clear hix h1
    go_enter Tryz.func208, Tryz.ntmps208
    go_wp2_with fail
    refine (Tryz.stringslite_Index_one s c _).mono ?_
    rintro e w' ⟨rfl, rfl⟩
    rw [HI.out]
    go_wp2_with fail
    go_ret3
    exact ⟨by rw [HV.out]; rfl, 0, rfl⟩

set_option maxHeartbeats 1000000 in
theorem cutC_any (c : UInt8) (s : ByteArray) (hs : s.size ≤ 4611686018427387904) (w : World) :
    Calls Tryz.prog 183 #[.string s, .string ⟨#[c]⟩] w fun e w' => e = .returned (cutC c s) ∧ ∃ n, w' = w.drewN n := by
  have hcon := lcutC_any c s hs
  have : ∃ a b d, cutC c s = .tuple #[.string a, .string b, .bool d] := by
    unfold cutC; split <;> exact ⟨_, _, _, rfl⟩
  obtain ⟨a, b, d, hv⟩ := this
  rw [hv] at hcon ⊢
  clear hv
  have HC := Lib.hid hcon; clear hcon
  go_enter Tryz.func183, Tryz.ntmps183
  go_wp2_with fail
  refine (HC.out _).mono ?_
  rintro e w' ⟨rfl, n, rfl⟩
  go_wp2_with fail
  go_ret3
  exact ⟨rfl, n, rfl⟩

theorem splS_flat (l : List ByteArray) : l.flatMap encS = l.map Value.string := by
  induction l with
  | nil => rfl
  | cons x l ih => rw [List.flatMap_cons, ih]; rfl

set_option maxHeartbeats 1000000 in
theorem gsplit_any (s : ByteArray) (c : UInt8) (hs : s.size < 4294967281) (w : World) :
    Calls Tryz.prog 209 #[.string s, .string ⟨#[c]⟩, .int .i64 0, .int .i64 (-1)] w (NewK encS 1 9 (splS c s.data.toList) w) := by
  have hC : Calls Tryz.prog 227 #[.string s, .string ⟨#[c]⟩] w fun e w' => e = .returned (.int .i64 (Lib.countB s ⟨#[c]⟩)) ∧ w' = w := by
    refine (Tryz.strings_Count_one s c w).mono ?_
    rintro e w' ⟨rfl, rfl⟩
    refine ⟨?_, rfl⟩
    show Ending.returned (.int .i64 (Lib.countByte s.data.toList c)) = Ending.returned (Value.int .i64 ((Lib.count s.data.toList [c] : Nat) : Int))
    rw [Lib.count_one]; rfl
  have h1 : 1 ≤ (⟨#[c]⟩ : ByteArray).size := Nat.le_refl 1
  have hle := Lib.countB_le ⟨#[c]⟩ h1 s.size s (Nat.le_refl _)
  have hlen := Lib.splitB_all ⟨#[c]⟩ h1 0 _ s rfl
  have core := Any.strings_genSplit_core Tryz.lays221 (by kernel_rfl) s ⟨#[c]⟩ 0 (-1) (Lib.countB s ⟨#[c]⟩ + 1) w hs h1 (Nat.zero_le _)
    (fun x cc hx => by
      refine (Tryz.strings_Index_one x c _).mono ?_
      rintro e w' ⟨rfl, rfl⟩
      refine ⟨?_, rfl⟩
      rw [indexByte_index]) hC (by decide) (by decide) (by rw [if_pos (by decide)]; omega)
  refine core.mono ?_
  rintro e w' ⟨rfl, rfl⟩
  rw [Nat.add_sub_cancel, splitB_mine]
  rw [splitB_mine] at hlen
  refine ⟨_, rfl, ?_, (Below.refl _ _).alloc (Nat.le_refl _) _⟩
  rw [← hlen]
  refine ⟨?_, fun g hg => ?_⟩
  · have := World.ownsRow_lit (base := w.heap.size) (e := 9) (size := 1) w ((splS c s.data.toList).map Value.string).toArray (splS c s.data.toList).length (Nat.le_refl _) (by unfold maxLen; omega) (by simp)
    rw [splS_flat, Lib.cellsOf_full]
    rw [List.toList_toArray] at this
    exact this
  · have : g = w.heap.size := (Option.some.inj hg).symm
    subst this; simp

set_option maxHeartbeats 1000000 in
theorem split_any (s : ByteArray) (c : UInt8) (hs : s.size < 4294967281) (w : World) :
    Calls Tryz.prog 184 #[.string s, .string ⟨#[c]⟩] w (NewK encS 1 9 (splS c s.data.toList) w) := by
  go_enter Tryz.func184, Tryz.ntmps184
  go_wp2_with fail
  refine (gsplit_any s c hs _).mono ?_
  rintro e w' ⟨v, rfl, ho, hb⟩
  have HO := Lib.hid ho; have HB := Lib.hid hb; clear ho hb
  go_wp2_with fail
  go_ret
  exact ⟨_, rfl, HO.out, HB.out⟩

end Go.Proofs.YtkjjiinccljhjaaGreatDoor
namespace Go.Proofs.YtkjjiinccljhjaaGreatDoor
open Go.ChangeShapes Go.WideShapes Go.ChangeAt Go.RowKit

/-- The library's MaxLen holds a number. -/
def Max0 (w : World) : Prop := ∃ m, w.cell? ⟨0, 0, none⟩ = some (.int .i64 m)
theorem Max0.on {w w' : World} (h : Max0 w) (hb : Below w.heap.size w w') : Max0 w' := by
  obtain ⟨m, hm⟩ := h
  exact ⟨m, (hb.cell (World.block_lt_of_cell? _ _ hm)).trans hm⟩

end Go.Proofs.YtkjjiinccljhjaaGreatDoor
namespace Go.Proofs.YtkjjiinccljhjaaGreatDoor
open Go.ChangeShapes Go.WideShapes Go.ChangeAt Go.RowKit

theorem max0C_of {w : World} (h : w.ShapedOpen Tryz.prog) : Max0 w := Tryz.laysM145.s1_3 w h
theorem cutN_any (s : ByteArray) (hs : s.size ≤ 1048576) (w : World) (hm : Max0 w) :
    Calls Tryz.prog 183 #[.string s, .string ⟨#[59, 110, 111, 110, 99, 101, 32]⟩] w fun e w' => e = .returned (.tuple #[.string (ofL (Lib.cut s.data.toList kNon.data.toList).1), .string (ofL (Lib.cut s.data.toList kNon.data.toList).2.1), .bool (Lib.cut s.data.toList kNon.data.toList).2.2]) ∧ ∃ n, w' = w.drewN n := by
  obtain ⟨m, hm⟩ := hm
  exact Tryz.strings_Cut s ⟨#[59, 110, 111, 110, 99, 101, 32]⟩ m w (by omega) hm
theorem splS_cons (c : UInt8) (l : List UInt8) : ∃ x xs, splS c l = x :: xs := by
  have h : splS c l ≠ [] := by
    unfold splS
    intro e
    have h2 : splitB c l = [] := List.map_eq_nil_iff.1 e
    have := splitB_ne c l
    exact this h2
  cases hs : splS c l with
  | nil => exact absurd hs h
  | cons x xs => exact ⟨x, xs, rfl⟩
theorem own_first {lo hi : Nat} {w : World} {v : Value} {x : ByteArray} {xs : List ByteArray} (h : OwnK encS 1 9 lo hi w v (x :: xs)) : ∃ g n c, v = .slice (some ⟨g, 0, none⟩) n c ∧ 1 ≤ n ∧ n ≤ c ∧ c ≤ 9223372036854775807 := by
  rcases h.1.2 with ⟨_, h0⟩ | ⟨g, cap, cur, e, _, _, hc, hm, _⟩
  · rw [List.length_cons] at h0; omega
  · unfold maxLen at hm
    exact ⟨g, _, cap, e, by rw [List.length_cons]; omega, hc, by omega⟩

set_option maxHeartbeats 1000000 in
theorem readHosts_any (p : ByteArray) (hz : p.size ≤ 1048576) (w : World) :
    Calls Tryz.prog 185 #[.string p] w (NewO ((splS 32 p.data.toList).tail) w) := by
  obtain ⟨x, xs, hx⟩ := splS_cons 32 p.data.toList
  rw [hx, List.tail_cons]
  have HX := Lib.hid hx; clear hx
  go_enter Tryz.func185, Tryz.ntmps185
  go_wp2_with fail
  refine (split_any p 32 (by omega) _).mono ?_
  rintro e w1 ⟨v, rfl, ho, hb⟩
  rw [HX.out] at ho
  obtain ⟨g, n, c, rfl, hn, hc, hcm⟩ := own_first ho
  have HT := Lib.hid (OwnO.tail ho); have HB := Lib.hid hb; clear ho hb
  by_cases h1 : c = 1
  · subst h1
    obtain rfl : n = 1 := by omega
    rw [if_pos rfl] at HT
    go_wp2_with fail
    go_ret
    exact ⟨_, _, _, rfl, HT.out, HB.out⟩
  · rw [if_neg h1] at HT
    have hn1 : (1 : Int) ≤ (n : Int) := by omega
    have hc1 : (n : Int) ≤ (c : Int) := by omega
    go_wp2_with fail
    go_ret
    exact ⟨_, _, _, rfl, HT.out, HB.out⟩

end Go.Proofs.YtkjjiinccljhjaaGreatDoor

/- Helper contracts: EqualPolicies of the program and of the model. Asked: the policies' slices read as named. -/
import Derived.Test.YtkjjiinccljhjaaDoorHasS
namespace Go.Proofs.YtkjjiinccljhjaaDoor
open Go.ChangeShapes Go.WideShapes Go.ChangeAt Go.RowKit

set_option maxRecDepth 100000 in
set_option maxHeartbeats 4000000 in
theorem eqPol_impl (set : Bool) (scr sty img : List ByteArray) (non : ByteArray) (a1 : Option Addr) (n1 c1 : Nat) (a2 : Option Addr) (n2 c2 : Nat) (a3 : Option Addr) (n3 c3 : Nat) (set' : Bool) (scr' sty' img' : List ByteArray) (non' : ByteArray) (a1' : Option Addr) (n1' c1' : Nat) (a2' : Option Addr) (n2' c2' : Nat) (a3' : Option Addr) (n3' c3' : Nat) (w : World) (hr : ReadP w.heap.size w (.slice a1 n1 c1) (.slice a2 n2 c2) (.slice a3 n3 c3) ⟨set, scr, sty, img, non⟩) (hr' : ReadP w.heap.size w (.slice a1' n1' c1') (.slice a2' n2' c2') (.slice a3' n3' c3') ⟨set', scr', sty', img', non'⟩) :
    Calls Tryd.prog 10 #[.agg #[.bool set, .slice a1 n1 c1, .slice a2 n2 c2, .slice a3 n3 c3, .string non], .agg #[.bool set', .slice a1' n1' c1', .slice a2' n2' c2', .slice a3' n3' c3', .string non']] w fun e w' => e = .returned (.bool (eqP ⟨set, scr, sty, img, non⟩ ⟨set', scr', sty', img', non'⟩)) ∧ Grw w w' := by
  obtain ⟨W, hW⟩ : ∃ W, (w.alloc (.cells #[.bool set, .slice a1 n1 c1, .slice a2 n2 c2, .slice a3 n3 c3, .string non] 26)).alloc (.cells #[.bool set', .slice a1' n1' c1', .slice a2' n2' c2', .slice a3' n3' c3', .string non'] 26) = W := ⟨_, rfl⟩
  have HG := Lib.hid (show Grw w W by rw [← hW]; exact ((Grw.refl w).alloc _).alloc _)
  have q0 : W.cell? ⟨w.heap.size, 0, none⟩ = some (.bool set) := by rw [← hW]; simp
  have p0 : W.cell? ⟨w.heap.size + 1, 0, none⟩ = some (.bool set') := by rw [← hW]; simp
  have q1 : W.cell? ⟨w.heap.size, 1, none⟩ = some (.slice a1 n1 c1) := by rw [← hW]; simp
  have p1 : W.cell? ⟨w.heap.size + 1, 1, none⟩ = some (.slice a1' n1' c1') := by rw [← hW]; simp
  have q2 : W.cell? ⟨w.heap.size, 2, none⟩ = some (.slice a2 n2 c2) := by rw [← hW]; simp
  have p2 : W.cell? ⟨w.heap.size + 1, 2, none⟩ = some (.slice a2' n2' c2') := by rw [← hW]; simp
  have q3 : W.cell? ⟨w.heap.size, 3, none⟩ = some (.slice a3 n3 c3) := by rw [← hW]; simp
  have p3 : W.cell? ⟨w.heap.size + 1, 3, none⟩ = some (.slice a3' n3' c3') := by rw [← hW]; simp
  have q4 : W.cell? ⟨w.heap.size, 4, none⟩ = some (.string non) := by rw [← hW]; simp
  have p4 : W.cell? ⟨w.heap.size + 1, 4, none⟩ = some (.string non') := by rw [← hW]; simp
  obtain ⟨hr1, hr2, hr3⟩ := (hr.below HG.out.below (Nat.le_refl _)).mono HG.out.below.size
  obtain ⟨hs1, hs2, hs3⟩ := (hr'.below HG.out.below (Nat.le_refl _)).mono HG.out.below.size
  have HC1 := Lib.hid (fun (X : World) (hg : Grw W X) => equalS_lib _ _ _ _ _ _ X (hr1.grw (Nat.le_refl _) hg) (hs1.grw (Nat.le_refl _) hg))
  have HC2 := Lib.hid (fun (X : World) (hg : Grw W X) => equalS_lib _ _ _ _ _ _ X (hr2.grw (Nat.le_refl _) hg) (hs2.grw (Nat.le_refl _) hg))
  have HC3 := Lib.hid (fun (X : World) (hg : Grw W X) => equalS_lib _ _ _ _ _ _ X (hr3.grw (Nat.le_refl _) hg) (hs3.grw (Nat.le_refl _) hg))
  clear hr hr' hr1 hr2 hr3 hs1 hs2 hs3
  have HIP := Lib.hid (show eqP ⟨set, scr, sty, img, non⟩ ⟨set', scr', sty', img', non'⟩ = ((set == set') && decide (scr = scr') && decide (sty = sty') && decide (img = img') && decide (non = non')) from rfl)
  by_cases h0 : set = set'
  · have e0 : (set == set') = true := beq_iff_eq.2 h0
    rw [e0] at HIP; clear h0
    by_cases h1 : non = non'
    · have e1 : (non.toList == non'.toList) = true := beqL_yes h1
      rw [show decide (non = non') = true from decide_eq_true h1] at HIP; clear h1
      cases h2 : decide (scr = scr') with
      | false =>
        rw [h2] at HIP; simp only [h2] at HC1; clear h2
        have HV := Lib.hid (show eqP ⟨set, scr, sty, img, non⟩ ⟨set', scr', sty', img', non'⟩ = false by rw [HIP.out]; simp)
        go_enter Tryd.func10, Tryd.ntmps10
        go_wp2_with fail
        have HGW := Lib.hid (Grw.refl W)
        refine (HC1.out _ HGW.out).mono ?_
        rintro e x0 ⟨rfl, hg0⟩
        replace q0 := (hg0.below.cell (show (⟨w.heap.size, 0, none⟩ : Addr).block < _ from World.block_lt_of_cell? _ _ q0)).trans q0
        replace p0 := (hg0.below.cell (show (⟨w.heap.size + 1, 0, none⟩ : Addr).block < _ from World.block_lt_of_cell? _ _ p0)).trans p0
        replace q1 := (hg0.below.cell (show (⟨w.heap.size, 1, none⟩ : Addr).block < _ from World.block_lt_of_cell? _ _ q1)).trans q1
        replace p1 := (hg0.below.cell (show (⟨w.heap.size + 1, 1, none⟩ : Addr).block < _ from World.block_lt_of_cell? _ _ p1)).trans p1
        replace q2 := (hg0.below.cell (show (⟨w.heap.size, 2, none⟩ : Addr).block < _ from World.block_lt_of_cell? _ _ q2)).trans q2
        replace p2 := (hg0.below.cell (show (⟨w.heap.size + 1, 2, none⟩ : Addr).block < _ from World.block_lt_of_cell? _ _ p2)).trans p2
        replace q3 := (hg0.below.cell (show (⟨w.heap.size, 3, none⟩ : Addr).block < _ from World.block_lt_of_cell? _ _ q3)).trans q3
        replace p3 := (hg0.below.cell (show (⟨w.heap.size + 1, 3, none⟩ : Addr).block < _ from World.block_lt_of_cell? _ _ p3)).trans p3
        replace q4 := (hg0.below.cell (show (⟨w.heap.size, 4, none⟩ : Addr).block < _ from World.block_lt_of_cell? _ _ q4)).trans q4
        replace p4 := (hg0.below.cell (show (⟨w.heap.size + 1, 4, none⟩ : Addr).block < _ from World.block_lt_of_cell? _ _ p4)).trans p4
        replace HGW := Lib.hid (HGW.out.trans hg0); clear hg0
        go_wp2_with fail
        go_ret
        exact ⟨by rw [HV.out]; rfl, HG.out.trans HGW.out⟩
      | true =>
        rw [h2] at HIP; simp only [h2] at HC1; clear h2
        cases h3 : decide (sty = sty') with
        | false =>
          rw [h3] at HIP; simp only [h3] at HC2; clear h3
          have HV := Lib.hid (show eqP ⟨set, scr, sty, img, non⟩ ⟨set', scr', sty', img', non'⟩ = false by rw [HIP.out]; simp)
          go_enter Tryd.func10, Tryd.ntmps10
          go_wp2_with fail
          have HGW := Lib.hid (Grw.refl W)
          refine (HC1.out _ HGW.out).mono ?_
          rintro e x0 ⟨rfl, hg0⟩
          replace q0 := (hg0.below.cell (show (⟨w.heap.size, 0, none⟩ : Addr).block < _ from World.block_lt_of_cell? _ _ q0)).trans q0
          replace p0 := (hg0.below.cell (show (⟨w.heap.size + 1, 0, none⟩ : Addr).block < _ from World.block_lt_of_cell? _ _ p0)).trans p0
          replace q1 := (hg0.below.cell (show (⟨w.heap.size, 1, none⟩ : Addr).block < _ from World.block_lt_of_cell? _ _ q1)).trans q1
          replace p1 := (hg0.below.cell (show (⟨w.heap.size + 1, 1, none⟩ : Addr).block < _ from World.block_lt_of_cell? _ _ p1)).trans p1
          replace q2 := (hg0.below.cell (show (⟨w.heap.size, 2, none⟩ : Addr).block < _ from World.block_lt_of_cell? _ _ q2)).trans q2
          replace p2 := (hg0.below.cell (show (⟨w.heap.size + 1, 2, none⟩ : Addr).block < _ from World.block_lt_of_cell? _ _ p2)).trans p2
          replace q3 := (hg0.below.cell (show (⟨w.heap.size, 3, none⟩ : Addr).block < _ from World.block_lt_of_cell? _ _ q3)).trans q3
          replace p3 := (hg0.below.cell (show (⟨w.heap.size + 1, 3, none⟩ : Addr).block < _ from World.block_lt_of_cell? _ _ p3)).trans p3
          replace q4 := (hg0.below.cell (show (⟨w.heap.size, 4, none⟩ : Addr).block < _ from World.block_lt_of_cell? _ _ q4)).trans q4
          replace p4 := (hg0.below.cell (show (⟨w.heap.size + 1, 4, none⟩ : Addr).block < _ from World.block_lt_of_cell? _ _ p4)).trans p4
          replace HGW := Lib.hid (HGW.out.trans hg0); clear hg0
          go_wp2_with fail
          refine (HC2.out _ HGW.out).mono ?_
          rintro e x1 ⟨rfl, hg1⟩
          replace q0 := (hg1.below.cell (show (⟨w.heap.size, 0, none⟩ : Addr).block < _ from World.block_lt_of_cell? _ _ q0)).trans q0
          replace p0 := (hg1.below.cell (show (⟨w.heap.size + 1, 0, none⟩ : Addr).block < _ from World.block_lt_of_cell? _ _ p0)).trans p0
          replace q1 := (hg1.below.cell (show (⟨w.heap.size, 1, none⟩ : Addr).block < _ from World.block_lt_of_cell? _ _ q1)).trans q1
          replace p1 := (hg1.below.cell (show (⟨w.heap.size + 1, 1, none⟩ : Addr).block < _ from World.block_lt_of_cell? _ _ p1)).trans p1
          replace q2 := (hg1.below.cell (show (⟨w.heap.size, 2, none⟩ : Addr).block < _ from World.block_lt_of_cell? _ _ q2)).trans q2
          replace p2 := (hg1.below.cell (show (⟨w.heap.size + 1, 2, none⟩ : Addr).block < _ from World.block_lt_of_cell? _ _ p2)).trans p2
          replace q3 := (hg1.below.cell (show (⟨w.heap.size, 3, none⟩ : Addr).block < _ from World.block_lt_of_cell? _ _ q3)).trans q3
          replace p3 := (hg1.below.cell (show (⟨w.heap.size + 1, 3, none⟩ : Addr).block < _ from World.block_lt_of_cell? _ _ p3)).trans p3
          replace q4 := (hg1.below.cell (show (⟨w.heap.size, 4, none⟩ : Addr).block < _ from World.block_lt_of_cell? _ _ q4)).trans q4
          replace p4 := (hg1.below.cell (show (⟨w.heap.size + 1, 4, none⟩ : Addr).block < _ from World.block_lt_of_cell? _ _ p4)).trans p4
          replace HGW := Lib.hid (HGW.out.trans hg1); clear hg1
          go_wp2_with fail
          go_ret
          exact ⟨by rw [HV.out]; rfl, HG.out.trans HGW.out⟩
        | true =>
          rw [h3] at HIP; simp only [h3] at HC2; clear h3
          cases h4 : decide (img = img') with
          | false =>
            rw [h4] at HIP; simp only [h4] at HC3; clear h4
            have HV := Lib.hid (show eqP ⟨set, scr, sty, img, non⟩ ⟨set', scr', sty', img', non'⟩ = false by rw [HIP.out]; simp)
            go_enter Tryd.func10, Tryd.ntmps10
            go_wp2_with fail
            have HGW := Lib.hid (Grw.refl W)
            refine (HC1.out _ HGW.out).mono ?_
            rintro e x0 ⟨rfl, hg0⟩
            replace q0 := (hg0.below.cell (show (⟨w.heap.size, 0, none⟩ : Addr).block < _ from World.block_lt_of_cell? _ _ q0)).trans q0
            replace p0 := (hg0.below.cell (show (⟨w.heap.size + 1, 0, none⟩ : Addr).block < _ from World.block_lt_of_cell? _ _ p0)).trans p0
            replace q1 := (hg0.below.cell (show (⟨w.heap.size, 1, none⟩ : Addr).block < _ from World.block_lt_of_cell? _ _ q1)).trans q1
            replace p1 := (hg0.below.cell (show (⟨w.heap.size + 1, 1, none⟩ : Addr).block < _ from World.block_lt_of_cell? _ _ p1)).trans p1
            replace q2 := (hg0.below.cell (show (⟨w.heap.size, 2, none⟩ : Addr).block < _ from World.block_lt_of_cell? _ _ q2)).trans q2
            replace p2 := (hg0.below.cell (show (⟨w.heap.size + 1, 2, none⟩ : Addr).block < _ from World.block_lt_of_cell? _ _ p2)).trans p2
            replace q3 := (hg0.below.cell (show (⟨w.heap.size, 3, none⟩ : Addr).block < _ from World.block_lt_of_cell? _ _ q3)).trans q3
            replace p3 := (hg0.below.cell (show (⟨w.heap.size + 1, 3, none⟩ : Addr).block < _ from World.block_lt_of_cell? _ _ p3)).trans p3
            replace q4 := (hg0.below.cell (show (⟨w.heap.size, 4, none⟩ : Addr).block < _ from World.block_lt_of_cell? _ _ q4)).trans q4
            replace p4 := (hg0.below.cell (show (⟨w.heap.size + 1, 4, none⟩ : Addr).block < _ from World.block_lt_of_cell? _ _ p4)).trans p4
            replace HGW := Lib.hid (HGW.out.trans hg0); clear hg0
            go_wp2_with fail
            refine (HC2.out _ HGW.out).mono ?_
            rintro e x1 ⟨rfl, hg1⟩
            replace q0 := (hg1.below.cell (show (⟨w.heap.size, 0, none⟩ : Addr).block < _ from World.block_lt_of_cell? _ _ q0)).trans q0
            replace p0 := (hg1.below.cell (show (⟨w.heap.size + 1, 0, none⟩ : Addr).block < _ from World.block_lt_of_cell? _ _ p0)).trans p0
            replace q1 := (hg1.below.cell (show (⟨w.heap.size, 1, none⟩ : Addr).block < _ from World.block_lt_of_cell? _ _ q1)).trans q1
            replace p1 := (hg1.below.cell (show (⟨w.heap.size + 1, 1, none⟩ : Addr).block < _ from World.block_lt_of_cell? _ _ p1)).trans p1
            replace q2 := (hg1.below.cell (show (⟨w.heap.size, 2, none⟩ : Addr).block < _ from World.block_lt_of_cell? _ _ q2)).trans q2
            replace p2 := (hg1.below.cell (show (⟨w.heap.size + 1, 2, none⟩ : Addr).block < _ from World.block_lt_of_cell? _ _ p2)).trans p2
            replace q3 := (hg1.below.cell (show (⟨w.heap.size, 3, none⟩ : Addr).block < _ from World.block_lt_of_cell? _ _ q3)).trans q3
            replace p3 := (hg1.below.cell (show (⟨w.heap.size + 1, 3, none⟩ : Addr).block < _ from World.block_lt_of_cell? _ _ p3)).trans p3
            replace q4 := (hg1.below.cell (show (⟨w.heap.size, 4, none⟩ : Addr).block < _ from World.block_lt_of_cell? _ _ q4)).trans q4
            replace p4 := (hg1.below.cell (show (⟨w.heap.size + 1, 4, none⟩ : Addr).block < _ from World.block_lt_of_cell? _ _ p4)).trans p4
            replace HGW := Lib.hid (HGW.out.trans hg1); clear hg1
            go_wp2_with fail
            refine (HC3.out _ HGW.out).mono ?_
            rintro e x2 ⟨rfl, hg2⟩
            replace q0 := (hg2.below.cell (show (⟨w.heap.size, 0, none⟩ : Addr).block < _ from World.block_lt_of_cell? _ _ q0)).trans q0
            replace p0 := (hg2.below.cell (show (⟨w.heap.size + 1, 0, none⟩ : Addr).block < _ from World.block_lt_of_cell? _ _ p0)).trans p0
            replace q1 := (hg2.below.cell (show (⟨w.heap.size, 1, none⟩ : Addr).block < _ from World.block_lt_of_cell? _ _ q1)).trans q1
            replace p1 := (hg2.below.cell (show (⟨w.heap.size + 1, 1, none⟩ : Addr).block < _ from World.block_lt_of_cell? _ _ p1)).trans p1
            replace q2 := (hg2.below.cell (show (⟨w.heap.size, 2, none⟩ : Addr).block < _ from World.block_lt_of_cell? _ _ q2)).trans q2
            replace p2 := (hg2.below.cell (show (⟨w.heap.size + 1, 2, none⟩ : Addr).block < _ from World.block_lt_of_cell? _ _ p2)).trans p2
            replace q3 := (hg2.below.cell (show (⟨w.heap.size, 3, none⟩ : Addr).block < _ from World.block_lt_of_cell? _ _ q3)).trans q3
            replace p3 := (hg2.below.cell (show (⟨w.heap.size + 1, 3, none⟩ : Addr).block < _ from World.block_lt_of_cell? _ _ p3)).trans p3
            replace q4 := (hg2.below.cell (show (⟨w.heap.size, 4, none⟩ : Addr).block < _ from World.block_lt_of_cell? _ _ q4)).trans q4
            replace p4 := (hg2.below.cell (show (⟨w.heap.size + 1, 4, none⟩ : Addr).block < _ from World.block_lt_of_cell? _ _ p4)).trans p4
            replace HGW := Lib.hid (HGW.out.trans hg2); clear hg2
            go_wp2_with fail
            go_ret
            exact ⟨by rw [HV.out]; rfl, HG.out.trans HGW.out⟩
          | true =>
            rw [h4] at HIP; simp only [h4] at HC3; clear h4
            have HV := Lib.hid (show eqP ⟨set, scr, sty, img, non⟩ ⟨set', scr', sty', img', non'⟩ = true by rw [HIP.out]; rfl)
            go_enter Tryd.func10, Tryd.ntmps10
            go_wp2_with fail
            have HGW := Lib.hid (Grw.refl W)
            refine (HC1.out _ HGW.out).mono ?_
            rintro e x0 ⟨rfl, hg0⟩
            replace q0 := (hg0.below.cell (show (⟨w.heap.size, 0, none⟩ : Addr).block < _ from World.block_lt_of_cell? _ _ q0)).trans q0
            replace p0 := (hg0.below.cell (show (⟨w.heap.size + 1, 0, none⟩ : Addr).block < _ from World.block_lt_of_cell? _ _ p0)).trans p0
            replace q1 := (hg0.below.cell (show (⟨w.heap.size, 1, none⟩ : Addr).block < _ from World.block_lt_of_cell? _ _ q1)).trans q1
            replace p1 := (hg0.below.cell (show (⟨w.heap.size + 1, 1, none⟩ : Addr).block < _ from World.block_lt_of_cell? _ _ p1)).trans p1
            replace q2 := (hg0.below.cell (show (⟨w.heap.size, 2, none⟩ : Addr).block < _ from World.block_lt_of_cell? _ _ q2)).trans q2
            replace p2 := (hg0.below.cell (show (⟨w.heap.size + 1, 2, none⟩ : Addr).block < _ from World.block_lt_of_cell? _ _ p2)).trans p2
            replace q3 := (hg0.below.cell (show (⟨w.heap.size, 3, none⟩ : Addr).block < _ from World.block_lt_of_cell? _ _ q3)).trans q3
            replace p3 := (hg0.below.cell (show (⟨w.heap.size + 1, 3, none⟩ : Addr).block < _ from World.block_lt_of_cell? _ _ p3)).trans p3
            replace q4 := (hg0.below.cell (show (⟨w.heap.size, 4, none⟩ : Addr).block < _ from World.block_lt_of_cell? _ _ q4)).trans q4
            replace p4 := (hg0.below.cell (show (⟨w.heap.size + 1, 4, none⟩ : Addr).block < _ from World.block_lt_of_cell? _ _ p4)).trans p4
            replace HGW := Lib.hid (HGW.out.trans hg0); clear hg0
            go_wp2_with fail
            refine (HC2.out _ HGW.out).mono ?_
            rintro e x1 ⟨rfl, hg1⟩
            replace q0 := (hg1.below.cell (show (⟨w.heap.size, 0, none⟩ : Addr).block < _ from World.block_lt_of_cell? _ _ q0)).trans q0
            replace p0 := (hg1.below.cell (show (⟨w.heap.size + 1, 0, none⟩ : Addr).block < _ from World.block_lt_of_cell? _ _ p0)).trans p0
            replace q1 := (hg1.below.cell (show (⟨w.heap.size, 1, none⟩ : Addr).block < _ from World.block_lt_of_cell? _ _ q1)).trans q1
            replace p1 := (hg1.below.cell (show (⟨w.heap.size + 1, 1, none⟩ : Addr).block < _ from World.block_lt_of_cell? _ _ p1)).trans p1
            replace q2 := (hg1.below.cell (show (⟨w.heap.size, 2, none⟩ : Addr).block < _ from World.block_lt_of_cell? _ _ q2)).trans q2
            replace p2 := (hg1.below.cell (show (⟨w.heap.size + 1, 2, none⟩ : Addr).block < _ from World.block_lt_of_cell? _ _ p2)).trans p2
            replace q3 := (hg1.below.cell (show (⟨w.heap.size, 3, none⟩ : Addr).block < _ from World.block_lt_of_cell? _ _ q3)).trans q3
            replace p3 := (hg1.below.cell (show (⟨w.heap.size + 1, 3, none⟩ : Addr).block < _ from World.block_lt_of_cell? _ _ p3)).trans p3
            replace q4 := (hg1.below.cell (show (⟨w.heap.size, 4, none⟩ : Addr).block < _ from World.block_lt_of_cell? _ _ q4)).trans q4
            replace p4 := (hg1.below.cell (show (⟨w.heap.size + 1, 4, none⟩ : Addr).block < _ from World.block_lt_of_cell? _ _ p4)).trans p4
            replace HGW := Lib.hid (HGW.out.trans hg1); clear hg1
            go_wp2_with fail
            refine (HC3.out _ HGW.out).mono ?_
            rintro e x2 ⟨rfl, hg2⟩
            replace q0 := (hg2.below.cell (show (⟨w.heap.size, 0, none⟩ : Addr).block < _ from World.block_lt_of_cell? _ _ q0)).trans q0
            replace p0 := (hg2.below.cell (show (⟨w.heap.size + 1, 0, none⟩ : Addr).block < _ from World.block_lt_of_cell? _ _ p0)).trans p0
            replace q1 := (hg2.below.cell (show (⟨w.heap.size, 1, none⟩ : Addr).block < _ from World.block_lt_of_cell? _ _ q1)).trans q1
            replace p1 := (hg2.below.cell (show (⟨w.heap.size + 1, 1, none⟩ : Addr).block < _ from World.block_lt_of_cell? _ _ p1)).trans p1
            replace q2 := (hg2.below.cell (show (⟨w.heap.size, 2, none⟩ : Addr).block < _ from World.block_lt_of_cell? _ _ q2)).trans q2
            replace p2 := (hg2.below.cell (show (⟨w.heap.size + 1, 2, none⟩ : Addr).block < _ from World.block_lt_of_cell? _ _ p2)).trans p2
            replace q3 := (hg2.below.cell (show (⟨w.heap.size, 3, none⟩ : Addr).block < _ from World.block_lt_of_cell? _ _ q3)).trans q3
            replace p3 := (hg2.below.cell (show (⟨w.heap.size + 1, 3, none⟩ : Addr).block < _ from World.block_lt_of_cell? _ _ p3)).trans p3
            replace q4 := (hg2.below.cell (show (⟨w.heap.size, 4, none⟩ : Addr).block < _ from World.block_lt_of_cell? _ _ q4)).trans q4
            replace p4 := (hg2.below.cell (show (⟨w.heap.size + 1, 4, none⟩ : Addr).block < _ from World.block_lt_of_cell? _ _ p4)).trans p4
            replace HGW := Lib.hid (HGW.out.trans hg2); clear hg2
            go_wp2_with fail
            go_ret
            exact ⟨by rw [HV.out]; rfl, HG.out.trans HGW.out⟩
    · have e1 : (non.toList == non'.toList) = false := beqL_no h1
      rw [show decide (non = non') = false from decide_eq_false h1] at HIP; clear h1
      have HV := Lib.hid (show eqP ⟨set, scr, sty, img, non⟩ ⟨set', scr', sty', img', non'⟩ = false by rw [HIP.out]; simp)
      go_enter Tryd.func10, Tryd.ntmps10
      go_wp2_with fail
      have HGW := Lib.hid (Grw.refl W)
      go_ret
      exact ⟨by rw [HV.out]; rfl, HG.out.trans HGW.out⟩
  · have e0 : (set == set') = false := beq_eq_false_iff_ne.2 h0
    rw [e0] at HIP; clear h0
    have HV := Lib.hid (show eqP ⟨set, scr, sty, img, non⟩ ⟨set', scr', sty', img', non'⟩ = false by rw [HIP.out]; simp)
    go_enter Tryd.func10, Tryd.ntmps10
    go_wp2_with fail
    have HGW := Lib.hid (Grw.refl W)
    go_ret
    exact ⟨by rw [HV.out]; rfl, HG.out.trans HGW.out⟩


end Go.Proofs.YtkjjiinccljhjaaDoor

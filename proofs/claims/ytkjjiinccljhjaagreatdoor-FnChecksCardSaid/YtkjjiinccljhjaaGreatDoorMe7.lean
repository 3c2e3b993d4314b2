/- Helper contracts: EqualPolicies of the program and of the model. Asked: the policies' slices read as named. Helper contracts: IsPolicy of the program and of the model. Asked: the policy's slices read as named, its strings are not too long. What stays below, in small steps. Helper facts, no claim of its own. Helper contracts: the words of a policy's form; FormatPolicy of the model and of the program. Asked: the policy's slices read as named, its strings are not too long. Helper contracts: what two lists of hosts have in common, a copy of one. Asked: the slices read as named, they are not too long. -/
import Derived.Test.YtkjjiinccljhjaaGreatDoorMe6
import Derived.Test.YtkjjiinccljhjaaGreatDoorMe5
import Derived.Test.YtkjjiinccljhjaaGreatDoorMe3
import Derived.Test.YtkjjiinccljhjaaGreatDoorShelfJ
import Derived.Lib.Join
import Derived.Deep.RegionHeld3
import Derived.Laws.Concat
namespace Go.Proofs.YtkjjiinccljhjaaGreatDoor

open Go.ChangeShapes Go.WideShapes Go.ChangeAt Go.RowKit

set_option maxRecDepth 100000 in
set_option maxHeartbeats 4000000 in
theorem eqPol_impl (set : Bool) (scr sty img : List ByteArray) (non : ByteArray) (a1 : Option Addr) (n1 c1 : Nat) (a2 : Option Addr) (n2 c2 : Nat) (a3 : Option Addr) (n3 c3 : Nat) (set' : Bool) (scr' sty' img' : List ByteArray) (non' : ByteArray) (a1' : Option Addr) (n1' c1' : Nat) (a2' : Option Addr) (n2' c2' : Nat) (a3' : Option Addr) (n3' c3' : Nat) (w : World) (hr : ReadP w.heap.size w (.slice a1 n1 c1) (.slice a2 n2 c2) (.slice a3 n3 c3) ⟨set, scr, sty, img, non⟩) (hr' : ReadP w.heap.size w (.slice a1' n1' c1') (.slice a2' n2' c2') (.slice a3' n3' c3') ⟨set', scr', sty', img', non'⟩) :
    Calls Tryz.prog 210 #[.agg #[.bool set, .slice a1 n1 c1, .slice a2 n2 c2, .slice a3 n3 c3, .string non], .agg #[.bool set', .slice a1' n1' c1', .slice a2' n2' c2', .slice a3' n3' c3', .string non']] w fun e w' => e = .returned (.bool (eqP ⟨set, scr, sty, img, non⟩ ⟨set', scr', sty', img', non'⟩)) ∧ Grw w w' := by
  obtain ⟨W, hW⟩ : ∃ W, (w.alloc (.cells #[.bool set, .slice a1 n1 c1, .slice a2 n2 c2, .slice a3 n3 c3, .string non] 26)).alloc (.cells #[.bool set', .slice a1' n1' c1', .slice a2' n2' c2', .slice a3' n3' c3', .string non'] 26) = W := ⟨_, rfl⟩
  have HG := Lib.hid (show Grw w W by rw [← hW]; exact ((Grw.refl w).alloc _).alloc _)
  have q0 : W.cell? ⟨w.heap.size, 0, none⟩ = some (.bool set) := by rw [← hW]; simp
  have p0 : W.cell? ⟨w.heap.size + 1, 0, none⟩ = some (.bool set') := by rw [← hW]; simp
  have q1 : W.cell? ⟨w.heap.size, 1, none⟩ = some (.slice a1 n1 c1) := by rw [← hW]; simp
  have p1 : W.cell? ⟨w.heap.size + 1, 1, none⟩ = some (.slice a1' n1' c1') := by rw [← hW]; simp
  have q2 : W.cell? ⟨w.heap.size, 2, none⟩ = some (.slice a2 n2 c2) := by rw [← hW]; simp
  have p2 : W.cell? ⟨w.heap.size + 1, 2, none⟩ = some (.slice a2' n2' c2') := by rw [← hW]; simp
  have q3 : W.cell? ⟨w.heap.size, 3, none⟩ = some (.slice a3 n3 c3) := by rw [← hW]; simp
  have p3 : W.cell? ⟨w.heap.size + 1, 3, none⟩ = some (.slice a3' n3' c3') := by rw [← hW]; simp
  have q4 : W.cell? ⟨w.heap.size, 4, none⟩ = some (.string non) := by rw [← hW]; simp
  have p4 : W.cell? ⟨w.heap.size + 1, 4, none⟩ = some (.string non') := by rw [← hW]; simp
  obtain ⟨hr1, hr2, hr3⟩ := (hr.below HG.out.below (Nat.le_refl _)).mono HG.out.below.size
  obtain ⟨hs1, hs2, hs3⟩ := (hr'.below HG.out.below (Nat.le_refl _)).mono HG.out.below.size
  have HC1 := Lib.hid (fun (X : World) (hg : Grw W X) => equalS_lib _ _ _ _ _ _ X (hr1.grw (Nat.le_refl _) hg) (hs1.grw (Nat.le_refl _) hg))
  have HC2 := Lib.hid (fun (X : World) (hg : Grw W X) => equalS_lib _ _ _ _ _ _ X (hr2.grw (Nat.le_refl _) hg) (hs2.grw (Nat.le_refl _) hg))
  have HC3 := Lib.hid (fun (X : World) (hg : Grw W X) => equalS_lib _ _ _ _ _ _ X (hr3.grw (Nat.le_refl _) hg) (hs3.grw (Nat.le_refl _) hg))
  clear hr hr' hr1 hr2 hr3 hs1 hs2 hs3
  have HIP := Lib.hid (show eqP ⟨set, scr, sty, img, non⟩ ⟨set', scr', sty', img', non'⟩ = ((set == set') && decide (scr = scr') && decide (sty = sty') && decide (img = img') && decide (non = non')) from rfl)
  by_cases h0 : set = set'
  · have e0 : (set == set') = true := beq_iff_eq.2 h0
    rw [e0] at HIP; clear h0
    by_cases h1 : non = non'
    · have e1 : (non.toList == non'.toList) = true := beqL_yes h1
      rw [show decide (non = non') = true from decide_eq_true h1] at HIP; clear h1
      cases h2 : decide (scr = scr') with
      | false =>
        rw [h2] at HIP; simp only [h2] at HC1; clear h2
        have HV := Lib.hid (show eqP ⟨set, scr, sty, img, non⟩ ⟨set', scr', sty', img', non'⟩ = false by rw [HIP.out]; simp)
        go_enter Tryz.func210, Tryz.ntmps210
        go_wp2_with fail
        have HGW := Lib.hid (Grw.refl W)
        refine (HC1.out _ HGW.out).mono ?_
        rintro e x0 ⟨rfl, hg0⟩
        replace q0 := (hg0.below.cell (show (⟨w.heap.size, 0, none⟩ : Addr).block < _ from World.block_lt_of_cell? _ _ q0)).trans q0
        replace p0 := (hg0.below.cell (show (⟨w.heap.size + 1, 0, none⟩ : Addr).block < _ from World.block_lt_of_cell? _ _ p0)).trans p0
        replace q1 := (hg0.below.cell (show (⟨w.heap.size, 1, none⟩ : Addr).block < _ from World.block_lt_of_cell? _ _ q1)).trans q1
        replace p1 := (hg0.below.cell (show (⟨w.heap.size + 1, 1, none⟩ : Addr).block < _ from World.block_lt_of_cell? _ _ p1)).trans p1
        replace q2 := (hg0.below.cell (show (⟨w.heap.size, 2, none⟩ : Addr).block < _ from World.block_lt_of_cell? _ _ q2)).trans q2
        replace p2 := (hg0.below.cell (show (⟨w.heap.size + 1, 2, none⟩ : Addr).block < _ from World.block_lt_of_cell? _ _ p2)).trans p2
        replace q3 := (hg0.below.cell (show (⟨w.heap.size, 3, none⟩ : Addr).block < _ from World.block_lt_of_cell? _ _ q3)).trans q3
        replace p3 := (hg0.below.cell (show (⟨w.heap.size + 1, 3, none⟩ : Addr).block < _ from World.block_lt_of_cell? _ _ p3)).trans p3
        replace q4 := (hg0.below.cell (show (⟨w.heap.size, 4, none⟩ : Addr).block < _ from World.block_lt_of_cell? _ _ q4)).trans q4
        replace p4 := (hg0.below.cell (show (⟨w.heap.size + 1, 4, none⟩ : Addr).block < _ from World.block_lt_of_cell? _ _ p4)).trans p4
        replace HGW := Lib.hid (HGW.out.trans hg0); clear hg0
        go_wp2_with fail
        go_ret
        exact ⟨by rw [HV.out]; rfl, HG.out.trans HGW.out⟩
      | true =>
        rw [h2] at HIP; simp only [h2] at HC1; clear h2
        cases h3 : decide (sty = sty') with
        | false =>
          rw [h3] at HIP; simp only [h3] at HC2; clear h3
          have HV := Lib.hid (show eqP ⟨set, scr, sty, img, non⟩ ⟨set', scr', sty', img', non'⟩ = false by rw [HIP.out]; simp)
          go_enter Tryz.func210, Tryz.ntmps210
          go_wp2_with fail
          have HGW := Lib.hid (Grw.refl W)
          refine (HC1.out _ HGW.out).mono ?_
          rintro e x0 ⟨rfl, hg0⟩
          replace q0 := (hg0.below.cell (show (⟨w.heap.size, 0, none⟩ : Addr).block < _ from World.block_lt_of_cell? _ _ q0)).trans q0
          replace p0 := (hg0.below.cell (show (⟨w.heap.size + 1, 0, none⟩ : Addr).block < _ from World.block_lt_of_cell? _ _ p0)).trans p0
          replace q1 := (hg0.below.cell (show (⟨w.heap.size, 1, none⟩ : Addr).block < _ from World.block_lt_of_cell? _ _ q1)).trans q1
          replace p1 := (hg0.below.cell (show (⟨w.heap.size + 1, 1, none⟩ : Addr).block < _ from World.block_lt_of_cell? _ _ p1)).trans p1
          replace q2 := (hg0.below.cell (show (⟨w.heap.size, 2, none⟩ : Addr).block < _ from World.block_lt_of_cell? _ _ q2)).trans q2
          replace p2 := (hg0.below.cell (show (⟨w.heap.size + 1, 2, none⟩ : Addr).block < _ from World.block_lt_of_cell? _ _ p2)).trans p2
          replace q3 := (hg0.below.cell (show (⟨w.heap.size, 3, none⟩ : Addr).block < _ from World.block_lt_of_cell? _ _ q3)).trans q3
          replace p3 := (hg0.below.cell (show (⟨w.heap.size + 1, 3, none⟩ : Addr).block < _ from World.block_lt_of_cell? _ _ p3)).trans p3
          replace q4 := (hg0.below.cell (show (⟨w.heap.size, 4, none⟩ : Addr).block < _ from World.block_lt_of_cell? _ _ q4)).trans q4
          replace p4 := (hg0.below.cell (show (⟨w.heap.size + 1, 4, none⟩ : Addr).block < _ from World.block_lt_of_cell? _ _ p4)).trans p4
          replace HGW := Lib.hid (HGW.out.trans hg0); clear hg0
          go_wp2_with fail
          refine (HC2.out _ HGW.out).mono ?_
          rintro e x1 ⟨rfl, hg1⟩
          replace q0 := (hg1.below.cell (show (⟨w.heap.size, 0, none⟩ : Addr).block < _ from World.block_lt_of_cell? _ _ q0)).trans q0
          replace p0 := (hg1.below.cell (show (⟨w.heap.size + 1, 0, none⟩ : Addr).block < _ from World.block_lt_of_cell? _ _ p0)).trans p0
          replace q1 := (hg1.below.cell (show (⟨w.heap.size, 1, none⟩ : Addr).block < _ from World.block_lt_of_cell? _ _ q1)).trans q1
          replace p1 := (hg1.below.cell (show (⟨w.heap.size + 1, 1, none⟩ : Addr).block < _ from World.block_lt_of_cell? _ _ p1)).trans p1
          replace q2 := (hg1.below.cell (show (⟨w.heap.size, 2, none⟩ : Addr).block < _ from World.block_lt_of_cell? _ _ q2)).trans q2
          replace p2 := (hg1.below.cell (show (⟨w.heap.size + 1, 2, none⟩ : Addr).block < _ from World.block_lt_of_cell? _ _ p2)).trans p2
          replace q3 := (hg1.below.cell (show (⟨w.heap.size, 3, none⟩ : Addr).block < _ from World.block_lt_of_cell? _ _ q3)).trans q3
          replace p3 := (hg1.below.cell (show (⟨w.heap.size + 1, 3, none⟩ : Addr).block < _ from World.block_lt_of_cell? _ _ p3)).trans p3
          replace q4 := (hg1.below.cell (show (⟨w.heap.size, 4, none⟩ : Addr).block < _ from World.block_lt_of_cell? _ _ q4)).trans q4
          replace p4 := (hg1.below.cell (show (⟨w.heap.size + 1, 4, none⟩ : Addr).block < _ from World.block_lt_of_cell? _ _ p4)).trans p4
          replace HGW := Lib.hid (HGW.out.trans hg1); clear hg1
          go_wp2_with fail
          go_ret
          exact ⟨by rw [HV.out]; rfl, HG.out.trans HGW.out⟩
        | true =>
          rw [h3] at HIP; simp only [h3] at HC2; clear h3
          cases h4 : decide (img = img') with
          | false =>
            rw [h4] at HIP; simp only [h4] at HC3; clear h4
            have HV := Lib.hid (show eqP ⟨set, scr, sty, img, non⟩ ⟨set', scr', sty', img', non'⟩ = false by rw [HIP.out]; simp)
            go_enter Tryz.func210, Tryz.ntmps210
            go_wp2_with fail
            have HGW := Lib.hid (Grw.refl W)
            refine (HC1.out _ HGW.out).mono ?_
            rintro e x0 ⟨rfl, hg0⟩
            replace q0 := (hg0.below.cell (show (⟨w.heap.size, 0, none⟩ : Addr).block < _ from World.block_lt_of_cell? _ _ q0)).trans q0
            replace p0 := (hg0.below.cell (show (⟨w.heap.size + 1, 0, none⟩ : Addr).block < _ from World.block_lt_of_cell? _ _ p0)).trans p0
            replace q1 := (hg0.below.cell (show (⟨w.heap.size, 1, none⟩ : Addr).block < _ from World.block_lt_of_cell? _ _ q1)).trans q1
            replace p1 := (hg0.below.cell (show (⟨w.heap.size + 1, 1, none⟩ : Addr).block < _ from World.block_lt_of_cell? _ _ p1)).trans p1
            replace q2 := (hg0.below.cell (show (⟨w.heap.size, 2, none⟩ : Addr).block < _ from World.block_lt_of_cell? _ _ q2)).trans q2
            replace p2 := (hg0.below.cell (show (⟨w.heap.size + 1, 2, none⟩ : Addr).block < _ from World.block_lt_of_cell? _ _ p2)).trans p2
            replace q3 := (hg0.below.cell (show (⟨w.heap.size, 3, none⟩ : Addr).block < _ from World.block_lt_of_cell? _ _ q3)).trans q3
            replace p3 := (hg0.below.cell (show (⟨w.heap.size + 1, 3, none⟩ : Addr).block < _ from World.block_lt_of_cell? _ _ p3)).trans p3
            replace q4 := (hg0.below.cell (show (⟨w.heap.size, 4, none⟩ : Addr).block < _ from World.block_lt_of_cell? _ _ q4)).trans q4
            replace p4 := (hg0.below.cell (show (⟨w.heap.size + 1, 4, none⟩ : Addr).block < _ from World.block_lt_of_cell? _ _ p4)).trans p4
            replace HGW := Lib.hid (HGW.out.trans hg0); clear hg0
            go_wp2_with fail
            refine (HC2.out _ HGW.out).mono ?_
            rintro e x1 ⟨rfl, hg1⟩
            replace q0 := (hg1.below.cell (show (⟨w.heap.size, 0, none⟩ : Addr).block < _ from World.block_lt_of_cell? _ _ q0)).trans q0
            replace p0 := (hg1.below.cell (show (⟨w.heap.size + 1, 0, none⟩ : Addr).block < _ from World.block_lt_of_cell? _ _ p0)).trans p0
            replace q1 := (hg1.below.cell (show (⟨w.heap.size, 1, none⟩ : Addr).block < _ from World.block_lt_of_cell? _ _ q1)).trans q1
            replace p1 := (hg1.below.cell (show (⟨w.heap.size + 1, 1, none⟩ : Addr).block < _ from World.block_lt_of_cell? _ _ p1)).trans p1
            replace q2 := (hg1.below.cell (show (⟨w.heap.size, 2, none⟩ : Addr).block < _ from World.block_lt_of_cell? _ _ q2)).trans q2
            replace p2 := (hg1.below.cell (show (⟨w.heap.size + 1, 2, none⟩ : Addr).block < _ from World.block_lt_of_cell? _ _ p2)).trans p2
            replace q3 := (hg1.below.cell (show (⟨w.heap.size, 3, none⟩ : Addr).block < _ from World.block_lt_of_cell? _ _ q3)).trans q3
            replace p3 := (hg1.below.cell (show (⟨w.heap.size + 1, 3, none⟩ : Addr).block < _ from World.block_lt_of_cell? _ _ p3)).trans p3
            replace q4 := (hg1.below.cell (show (⟨w.heap.size, 4, none⟩ : Addr).block < _ from World.block_lt_of_cell? _ _ q4)).trans q4
            replace p4 := (hg1.below.cell (show (⟨w.heap.size + 1, 4, none⟩ : Addr).block < _ from World.block_lt_of_cell? _ _ p4)).trans p4
            replace HGW := Lib.hid (HGW.out.trans hg1); clear hg1
            go_wp2_with fail
            refine (HC3.out _ HGW.out).mono ?_
            rintro e x2 ⟨rfl, hg2⟩
            replace q0 := (hg2.below.cell (show (⟨w.heap.size, 0, none⟩ : Addr).block < _ from World.block_lt_of_cell? _ _ q0)).trans q0
            replace p0 := (hg2.below.cell (show (⟨w.heap.size + 1, 0, none⟩ : Addr).block < _ from World.block_lt_of_cell? _ _ p0)).trans p0
            replace q1 := (hg2.below.cell (show (⟨w.heap.size, 1, none⟩ : Addr).block < _ from World.block_lt_of_cell? _ _ q1)).trans q1
            replace p1 := (hg2.below.cell (show (⟨w.heap.size + 1, 1, none⟩ : Addr).block < _ from World.block_lt_of_cell? _ _ p1)).trans p1
            replace q2 := (hg2.below.cell (show (⟨w.heap.size, 2, none⟩ : Addr).block < _ from World.block_lt_of_cell? _ _ q2)).trans q2
            replace p2 := (hg2.below.cell (show (⟨w.heap.size + 1, 2, none⟩ : Addr).block < _ from World.block_lt_of_cell? _ _ p2)).trans p2
            replace q3 := (hg2.below.cell (show (⟨w.heap.size, 3, none⟩ : Addr).block < _ from World.block_lt_of_cell? _ _ q3)).trans q3
            replace p3 := (hg2.below.cell (show (⟨w.heap.size + 1, 3, none⟩ : Addr).block < _ from World.block_lt_of_cell? _ _ p3)).trans p3
            replace q4 := (hg2.below.cell (show (⟨w.heap.size, 4, none⟩ : Addr).block < _ from World.block_lt_of_cell? _ _ q4)).trans q4
            replace p4 := (hg2.below.cell (show (⟨w.heap.size + 1, 4, none⟩ : Addr).block < _ from World.block_lt_of_cell? _ _ p4)).trans p4
            replace HGW := Lib.hid (HGW.out.trans hg2); clear hg2
            go_wp2_with fail
            go_ret
            exact ⟨by rw [HV.out]; rfl, HG.out.trans HGW.out⟩
          | true =>
            rw [h4] at HIP; simp only [h4] at HC3; clear h4
            have HV := Lib.hid (show eqP ⟨set, scr, sty, img, non⟩ ⟨set', scr', sty', img', non'⟩ = true by rw [HIP.out]; rfl)
            go_enter Tryz.func210, Tryz.ntmps210
            go_wp2_with fail
            have HGW := Lib.hid (Grw.refl W)
            refine (HC1.out _ HGW.out).mono ?_
            rintro e x0 ⟨rfl, hg0⟩
            replace q0 := (hg0.below.cell (show (⟨w.heap.size, 0, none⟩ : Addr).block < _ from World.block_lt_of_cell? _ _ q0)).trans q0
            replace p0 := (hg0.below.cell (show (⟨w.heap.size + 1, 0, none⟩ : Addr).block < _ from World.block_lt_of_cell? _ _ p0)).trans p0
            replace q1 := (hg0.below.cell (show (⟨w.heap.size, 1, none⟩ : Addr).block < _ from World.block_lt_of_cell? _ _ q1)).trans q1
            replace p1 := (hg0.below.cell (show (⟨w.heap.size + 1, 1, none⟩ : Addr).block < _ from World.block_lt_of_cell? _ _ p1)).trans p1
            replace q2 := (hg0.below.cell (show (⟨w.heap.size, 2, none⟩ : Addr).block < _ from World.block_lt_of_cell? _ _ q2)).trans q2
            replace p2 := (hg0.below.cell (show (⟨w.heap.size + 1, 2, none⟩ : Addr).block < _ from World.block_lt_of_cell? _ _ p2)).trans p2
            replace q3 := (hg0.below.cell (show (⟨w.heap.size, 3, none⟩ : Addr).block < _ from World.block_lt_of_cell? _ _ q3)).trans q3
            replace p3 := (hg0.below.cell (show (⟨w.heap.size + 1, 3, none⟩ : Addr).block < _ from World.block_lt_of_cell? _ _ p3)).trans p3
            replace q4 := (hg0.below.cell (show (⟨w.heap.size, 4, none⟩ : Addr).block < _ from World.block_lt_of_cell? _ _ q4)).trans q4
            replace p4 := (hg0.below.cell (show (⟨w.heap.size + 1, 4, none⟩ : Addr).block < _ from World.block_lt_of_cell? _ _ p4)).trans p4
            replace HGW := Lib.hid (HGW.out.trans hg0); clear hg0
            go_wp2_with fail
            refine (HC2.out _ HGW.out).mono ?_
            rintro e x1 ⟨rfl, hg1⟩
            replace q0 := (hg1.below.cell (show (⟨w.heap.size, 0, none⟩ : Addr).block < _ from World.block_lt_of_cell? _ _ q0)).trans q0
            replace p0 := (hg1.below.cell (show (⟨w.heap.size + 1, 0, none⟩ : Addr).block < _ from World.block_lt_of_cell? _ _ p0)).trans p0
            replace q1 := (hg1.below.cell (show (⟨w.heap.size, 1, none⟩ : Addr).block < _ from World.block_lt_of_cell? _ _ q1)).trans q1
            replace p1 := (hg1.below.cell (show (⟨w.heap.size + 1, 1, none⟩ : Addr).block < _ from World.block_lt_of_cell? _ _ p1)).trans p1
            replace q2 := (hg1.below.cell (show (⟨w.heap.size, 2, none⟩ : Addr).block < _ from World.block_lt_of_cell? _ _ q2)).trans q2
            replace p2 := (hg1.below.cell (show (⟨w.heap.size + 1, 2, none⟩ : Addr).block < _ from World.block_lt_of_cell? _ _ p2)).trans p2
            replace q3 := (hg1.below.cell (show (⟨w.heap.size, 3, none⟩ : Addr).block < _ from World.block_lt_of_cell? _ _ q3)).trans q3
            replace p3 := (hg1.below.cell (show (⟨w.heap.size + 1, 3, none⟩ : Addr).block < _ from World.block_lt_of_cell? _ _ p3)).trans p3
            replace q4 := (hg1.below.cell (show (⟨w.heap.size, 4, none⟩ : Addr).block < _ from World.block_lt_of_cell? _ _ q4)).trans q4
            replace p4 := (hg1.below.cell (show (⟨w.heap.size + 1, 4, none⟩ : Addr).block < _ from World.block_lt_of_cell? _ _ p4)).trans p4
            replace HGW := Lib.hid (HGW.out.trans hg1); clear hg1
            go_wp2_with fail
            refine (HC3.out _ HGW.out).mono ?_
            rintro e x2 ⟨rfl, hg2⟩
            replace q0 := (hg2.below.cell (show (⟨w.heap.size, 0, none⟩ : Addr).block < _ from World.block_lt_of_cell? _ _ q0)).trans q0
            replace p0 := (hg2.below.cell (show (⟨w.heap.size + 1, 0, none⟩ : Addr).block < _ from World.block_lt_of_cell? _ _ p0)).trans p0
            replace q1 := (hg2.below.cell (show (⟨w.heap.size, 1, none⟩ : Addr).block < _ from World.block_lt_of_cell? _ _ q1)).trans q1
            replace p1 := (hg2.below.cell (show (⟨w.heap.size + 1, 1, none⟩ : Addr).block < _ from World.block_lt_of_cell? _ _ p1)).trans p1
            replace q2 := (hg2.below.cell (show (⟨w.heap.size, 2, none⟩ : Addr).block < _ from World.block_lt_of_cell? _ _ q2)).trans q2
            replace p2 := (hg2.below.cell (show (⟨w.heap.size + 1, 2, none⟩ : Addr).block < _ from World.block_lt_of_cell? _ _ p2)).trans p2
            replace q3 := (hg2.below.cell (show (⟨w.heap.size, 3, none⟩ : Addr).block < _ from World.block_lt_of_cell? _ _ q3)).trans q3
            replace p3 := (hg2.below.cell (show (⟨w.heap.size + 1, 3, none⟩ : Addr).block < _ from World.block_lt_of_cell? _ _ p3)).trans p3
            replace q4 := (hg2.below.cell (show (⟨w.heap.size, 4, none⟩ : Addr).block < _ from World.block_lt_of_cell? _ _ q4)).trans q4
            replace p4 := (hg2.below.cell (show (⟨w.heap.size + 1, 4, none⟩ : Addr).block < _ from World.block_lt_of_cell? _ _ p4)).trans p4
            replace HGW := Lib.hid (HGW.out.trans hg2); clear hg2
            go_wp2_with fail
            go_ret
            exact ⟨by rw [HV.out]; rfl, HG.out.trans HGW.out⟩
    · have e1 : (non.toList == non'.toList) = false := beqL_no h1
      rw [show decide (non = non') = false from decide_eq_false h1] at HIP; clear h1
      have HV := Lib.hid (show eqP ⟨set, scr, sty, img, non⟩ ⟨set', scr', sty', img', non'⟩ = false by rw [HIP.out]; simp)
      go_enter Tryz.func210, Tryz.ntmps210
      go_wp2_with fail
      have HGW := Lib.hid (Grw.refl W)
      go_ret
      exact ⟨by rw [HV.out]; rfl, HG.out.trans HGW.out⟩
  · have e0 : (set == set') = false := beq_eq_false_iff_ne.2 h0
    rw [e0] at HIP; clear h0
    have HV := Lib.hid (show eqP ⟨set, scr, sty, img, non⟩ ⟨set', scr', sty', img', non'⟩ = false by rw [HIP.out]; simp)
    go_enter Tryz.func210, Tryz.ntmps210
    go_wp2_with fail
    have HGW := Lib.hid (Grw.refl W)
    go_ret
    exact ⟨by rw [HV.out]; rfl, HG.out.trans HGW.out⟩

end Go.Proofs.YtkjjiinccljhjaaGreatDoor
namespace Go.Proofs.YtkjjiinccljhjaaGreatDoor
open Go.ChangeShapes Go.WideShapes Go.ChangeAt Go.RowKit

/-- The first k are names. -/
def nmTo (xs : List ByteArray) (k : Nat) : Prop := ∀ (j : Nat) (x : ByteArray), j < k → xs[j]? = some x → isNm x = true
theorem nmTo.zero (xs : List ByteArray) : nmTo xs 0 := fun _ _ h => absurd h (Nat.not_lt_zero _)
theorem nmTo.succ {xs : List ByteArray} {x : ByteArray} {k : Nat} (h : nmTo xs k) (hx : xs[k]? = some x) (hn : isNm x = true) : nmTo xs (k + 1) := by
  intro j y hj hy
  by_cases e : j = k
  · subst e; rw [hx] at hy; cases hy; exact hn
  · exact h j y (by omega) hy
theorem okHosts_full {xs : List ByteArray} {k : Nat} (h : nmTo xs k) (hk : xs.length = k) : okHosts xs = decide (xs.length ≤ 4) := by
  unfold okHosts
  have : xs.all isNm = true := List.all_eq_true.2 fun x hx => by
    obtain ⟨j, hj⟩ := List.mem_iff_getElem?.1 hx
    exact h j x (by have := (List.getElem?_eq_some_iff.1 hj).1; omega) hj
  rw [this, Bool.and_true]
theorem okHosts_bad {xs : List ByteArray} {x : ByteArray} {k : Nat} (hx : xs[k]? = some x) (h : isNm x = false) : okHosts xs = false := by
  unfold okHosts
  have : xs.all isNm = false := by
    rw [Bool.eq_false_iff]
    intro ha
    have := List.all_eq_true.1 ha x (List.mem_of_getElem? hx)
    rw [h] at this; cases this
  rw [this, Bool.and_false]
theorem okHosts_long {xs : List ByteArray} (h : ¬ xs.length ≤ 4) : okHosts xs = false := by
  unfold okHosts; rw [decide_eq_false h, Bool.false_and]

theorem nilReads (hi : Nat) (w : World) : ReadsK encS 1 hi w (.slice none 0 0) [] := ⟨none, 0, rfl, Nat.le_refl _, by omega, (fun _ => rfl), Or.inl rfl⟩
theorem ReadsK.len {hi n c : Nat} {w : World} {a : Option Addr} {xs : List ByteArray} (h : ReadsK encS 1 hi w (.slice a n c) xs) : n = xs.length := by
  obtain ⟨_, _, e, _⟩ := h
  injection e

/-- The strings of a policy are not too long. -/
def PolSm (p : Pol) : Prop := (p.scr.length + sumSt p.scr ≤ 1048576) ∧ (p.sty.length + sumSt p.sty ≤ 1048576) ∧ (p.img.length + sumSt p.img ≤ 1048576) ∧ p.non.size ≤ 1048576
theorem small_of {xs : List ByteArray} (h : xs.length + sumSt xs ≤ 1048576) : ∀ s ∈ xs, s.size ≤ 9223372036854775807 := fun s hs => by
  have := sum_le_at hs; unfold sumSt at h; omega
theorem isPol_off_no {scr sty img : List ByteArray} {non : ByteArray} (h : ¬ (scr.length = 0 ∧ sty.length = 0 ∧ img.length = 0 ∧ non.size = 0)) : isPol ⟨false, scr, sty, img, non⟩ = false := by
  rw [Bool.eq_false_iff]
  intro he
  unfold isPol at he
  rw [if_neg Bool.false_ne_true, Bool.and_eq_true, Bool.and_eq_true, Bool.and_eq_true] at he
  obtain ⟨⟨⟨a, b⟩, c⟩, d⟩ := he
  exact h ⟨of_decide_eq_true a, of_decide_eq_true b, of_decide_eq_true c, of_decide_eq_true d⟩
theorem isPol_off_yes {scr sty img : List ByteArray} {non : ByteArray} (h : scr.length = 0 ∧ sty.length = 0 ∧ img.length = 0 ∧ non.size = 0) : isPol ⟨false, scr, sty, img, non⟩ = true := by
  unfold isPol
  rw [if_neg Bool.false_ne_true, Bool.and_eq_true, Bool.and_eq_true, Bool.and_eq_true]
  exact ⟨⟨⟨decide_eq_true h.1, decide_eq_true h.2.1⟩, decide_eq_true h.2.2.1⟩, decide_eq_true h.2.2.2⟩
theorem isPol_eqZ (scr sty img : List ByteArray) (non : ByteArray) : eqP ⟨false, scr, sty, img, non⟩ polZ = isPol ⟨false, scr, sty, img, non⟩ := by
  have e : ∀ l : List ByteArray, decide (l = []) = decide (l.length = 0) := fun l => decide_eq_decide.2 List.length_eq_zero_iff.symm
  have e2 : decide (non = ⟨#[]⟩) = decide (non.size = 0) := decide_eq_decide.2 ⟨fun h => by rw [h]; rfl, emptyB⟩
  unfold eqP isPol polZ
  rw [if_neg Bool.false_ne_true]
  show ((false == false) && decide (scr = []) && decide (sty = []) && decide (img = []) && decide (non = ⟨#[]⟩)) = _
  rw [e, e, e, e2]; rfl

set_option maxRecDepth 100000 in
set_option maxHeartbeats 2000000 in
theorem names_spec (v : Value) (hi : Nat) (xs : List ByteArray) (w : World) (hr : ReadsK encS 1 hi w v xs) (hz : ∀ s ∈ xs, s.size ≤ 9223372036854775807) :
    Calls Tryz.prog 206 #[v] w fun e w' => e = .returned (.bool (okHosts xs)) ∧ w = w' := by
  obtain ⟨a, cap, rfl, hc1, hc2, _⟩ := id hr
  obtain ⟨n, hn⟩ : ∃ n, xs.length = n := ⟨_, rfl⟩
  rw [hn] at hr hc1 ⊢
  have HN := Lib.hid hn; have HR := Lib.hid hr; have HZ := Lib.hid hz; clear hn hr hz
  go_enter Tryz.func206, Tryz.ntmps206
  go_wp2
  go_loop [3] (fun i => ∃ (k : Nat), k ≤ n ∧ i = .int .i64 k ∧ nmTo xs k) (fun i => n - (intOf i).toNat)
  case atStart => exact ⟨0, Nat.zero_le _, rfl, nmTo.zero _⟩
  case round =>
    obtain ⟨k, hk, rfl, hnot⟩ := hrel
    have HNI := Lib.hid hnot; clear hnot
    by_cases hlt : (k : Int) < (n : Int)
    · obtain ⟨x, hx⟩ := ssAt (xs := xs) (j := k) (by have := HN.out; omega)
      obtain ⟨g, off, rfl, _, c0⟩ := str_cell HR.out hx
      have HX := Lib.hid hx; have hxz := HZ.out x (List.mem_of_getElem? hx); clear hx
      have HC := Lib.hid (fun W => nm_spec x hxz W)
      cases h1 : isNm x with
      | false =>
        have HV := Lib.hid (okHosts_bad HX.out h1)
        rw [h1] at HC; clear h1
        go_wp2_with (go_at_call 112; refine (HC.out _).mono ?_; rintro e w' ⟨rfl, rfl⟩)
        go_ret
        exact ⟨by rw [HV.out]; rfl, rfl⟩
      | true =>
        have HS := Lib.hid (HNI.out.succ HX.out h1)
        rw [h1] at HC; clear h1
        go_wp2_with (go_at_call 112; refine (HC.out _).mono ?_; rintro e w' ⟨rfl, rfl⟩)
        go_round
        case rel => exact ⟨k + 1, by omega, by go_num, HS.out⟩
        case measure => simp [intOf]; omega
    · have hlf : decide ((k : Int) < (n : Int)) = false := decide_eq_false hlt
      have HV := Lib.hid (okHosts_full (k := n) (by rw [show n = k by omega]; exact HNI.out) HN.out)
      by_cases h4 : (n : Int) ≤ 4
      · have h4d : decide ((n : Int) ≤ 4) = true := decide_eq_true h4
        have HW := Lib.hid (show okHosts xs = true by rw [HV.out, HN.out]; exact decide_eq_true (by omega))
        go_wp2
        go_ret
        exact ⟨by rw [HW.out]; rfl, rfl⟩
      · have h4d : decide ((n : Int) ≤ 4) = false := decide_eq_false h4
        have HW := Lib.hid (show okHosts xs = false by rw [HV.out, HN.out]; exact decide_eq_false (by omega))
        go_wp2
        go_ret
        exact ⟨by rw [HW.out]; rfl, rfl⟩

set_option maxRecDepth 100000 in
set_option maxHeartbeats 2000000 in
theorem names_impl (v : Value) (hi : Nat) (xs : List ByteArray) (w : World) (hr : ReadsK encS 1 hi w v xs) (hz : ∀ s ∈ xs, s.size ≤ 9223372036854775807) :
    Calls Tryz.prog 211 #[v] w fun e w' => e = .returned (.bool (okHosts xs)) ∧ w = w' := by
  obtain ⟨a, cap, rfl, hc1, hc2, _⟩ := id hr
  obtain ⟨n, hn⟩ : ∃ n, xs.length = n := ⟨_, rfl⟩
  rw [hn] at hr hc1 ⊢
  have HN := Lib.hid hn; have HR := Lib.hid hr; have HZ := Lib.hid hz; clear hn hr hz
  by_cases h4 : (4 : Int) < (n : Int)
  · have HV := Lib.hid (okHosts_long (xs := xs) (by have := HN.out; omega))
    go_enter Tryz.func211, Tryz.ntmps211
    go_wp2
    go_ret
    exact ⟨by rw [HV.out]; rfl, rfl⟩
  have h4d : decide ((4 : Int) < (n : Int)) = false := decide_eq_false h4
  go_enter Tryz.func211, Tryz.ntmps211
  go_wp2
  go_loop [10] (fun i => ∃ (k : Nat), k ≤ n ∧ i = .int .i64 k ∧ nmTo xs k) (fun i => n - (intOf i).toNat)
  case atStart => exact ⟨0, Nat.zero_le _, rfl, nmTo.zero _⟩
  case round =>
    obtain ⟨k, hk, rfl, hnot⟩ := hrel
    have HNI := Lib.hid hnot; clear hnot
    by_cases hlt : (k : Int) < (n : Int)
    · obtain ⟨x, hx⟩ := ssAt (xs := xs) (j := k) (by have := HN.out; omega)
      obtain ⟨g, off, rfl, _, c0⟩ := str_cell HR.out hx
      have HX := Lib.hid hx; have hxz := HZ.out x (List.mem_of_getElem? hx); clear hx
      have HC := Lib.hid (fun W => nm_impl x hxz W)
      cases h1 : isNm x with
      | false =>
        have HV := Lib.hid (okHosts_bad HX.out h1)
        rw [h1] at HC; clear h1
        go_wp2_with (go_at_call 142; refine (HC.out _).mono ?_; rintro e w' ⟨rfl, rfl⟩)
        go_ret
        exact ⟨by rw [HV.out]; rfl, rfl⟩
      | true =>
        have HS := Lib.hid (HNI.out.succ HX.out h1)
        rw [h1] at HC; clear h1
        go_wp2_with (go_at_call 142; refine (HC.out _).mono ?_; rintro e w' ⟨rfl, rfl⟩)
        go_round
        case rel => exact ⟨k + 1, by omega, by go_num, HS.out⟩
        case measure => simp [intOf]; omega
    · have hlf : decide ((k : Int) < (n : Int)) = false := decide_eq_false hlt
      have HV := Lib.hid (okHosts_full (k := n) (by rw [show n = k by omega]; exact HNI.out) HN.out)
      have HW := Lib.hid (show okHosts xs = true by rw [HV.out, HN.out]; exact decide_eq_true (by omega))
      go_wp2
      go_ret
      exact ⟨by rw [HW.out]; rfl, rfl⟩

set_option maxRecDepth 100000 in
set_option maxHeartbeats 4000000 in
theorem isPol_spec (set : Bool) (scr sty img : List ByteArray) (non : ByteArray) (a1 : Option Addr) (n1 c1 : Nat) (a2 : Option Addr) (n2 c2 : Nat) (a3 : Option Addr) (n3 c3 : Nat) (hz : PolSm ⟨set, scr, sty, img, non⟩) (w : World) (hr : ReadP w.heap.size w (.slice a1 n1 c1) (.slice a2 n2 c2) (.slice a3 n3 c3) ⟨set, scr, sty, img, non⟩) :
    Calls Tryz.prog 178 #[.agg #[.bool set, .slice a1 n1 c1, .slice a2 n2 c2, .slice a3 n3 c3, .string non]] w fun e w' => e = .returned (.bool (isPol ⟨set, scr, sty, img, non⟩)) ∧ Grw w w' := by
  obtain ⟨z1, z2, z3, z4⟩ := hz
  cases set with
  | false =>
    have k1 : n1 = scr.length := hr.1.len; have k2 : n2 = sty.length := hr.2.1.len; have k3 : n3 = img.length := hr.2.2.len
    obtain ⟨W, hW⟩ : ∃ W, w.alloc (.cells #[.bool false, .slice a1 n1 c1, .slice a2 n2 c2, .slice a3 n3 c3, .string non] 26) = W := ⟨_, rfl⟩
    have HG := Lib.hid (show Grw w W by rw [← hW]; exact (Grw.refl w).alloc _)
    have q0 : W.cell? ⟨w.heap.size, 0, none⟩ = some (.bool false) := by rw [← hW]; simp
    have q1 : W.cell? ⟨w.heap.size, 1, none⟩ = some (.slice a1 n1 c1) := by rw [← hW]; simp
    have q2 : W.cell? ⟨w.heap.size, 2, none⟩ = some (.slice a2 n2 c2) := by rw [← hW]; simp
    have q3 : W.cell? ⟨w.heap.size, 3, none⟩ = some (.slice a3 n3 c3) := by rw [← hW]; simp
    have q4 : W.cell? ⟨w.heap.size, 4, none⟩ = some (.string non) := by rw [← hW]; simp
    obtain ⟨hr1, hr2, hr3⟩ := (hr.below HG.out.below (Nat.le_refl _)).mono HG.out.below.size
    have HR1 := Lib.hid hr1; have HR2 := Lib.hid hr2; have HR3 := Lib.hid hr3; clear hr hr1 hr2 hr3
    clear z1 z2 z3 z4
    by_cases m1 : n1 = 0
    · have b1 : ((n1 : Int) == 0) = true := beq_iff_eq.2 (by omega)
      by_cases m2 : n2 = 0
      · have b2 : ((n2 : Int) == 0) = true := beq_iff_eq.2 (by omega)
        by_cases m3 : n3 = 0
        · have b3 : ((n3 : Int) == 0) = true := beq_iff_eq.2 (by omega)
          by_cases m4 : non.size = 0
          · have b4 : (non.toList == []) = true := by rw [empP_size, decide_eq_true m4]
            have HV := Lib.hid (isPol_off_yes (scr := scr) (sty := sty) (img := img) (non := non) (by omega))
            clear m1 m2 m3 m4 k1 k2 k3
            go_enter Tryz.func178, Tryz.ntmps178
            go_wp2_with fail
            go_ret
            exact ⟨by rw [HV.out]; rfl, HG.out⟩
          · have b4 : (non.toList == []) = false := by rw [empP_size, decide_eq_false m4]
            have HV := Lib.hid (isPol_off_no (scr := scr) (sty := sty) (img := img) (non := non) (by omega))
            clear m1 m2 m3 m4 k1 k2 k3
            go_enter Tryz.func178, Tryz.ntmps178
            go_wp2_with fail
            go_ret
            exact ⟨by rw [HV.out]; rfl, HG.out⟩
        · have b3 : ((n3 : Int) == 0) = false := beq_eq_false_iff_ne.2 (by omega)
          have HV := Lib.hid (isPol_off_no (scr := scr) (sty := sty) (img := img) (non := non) (by omega))
          clear m1 m2 m3 k1 k2 k3
          go_enter Tryz.func178, Tryz.ntmps178
          go_wp2_with fail
          go_ret
          exact ⟨by rw [HV.out]; rfl, HG.out⟩
      · have b2 : ((n2 : Int) == 0) = false := beq_eq_false_iff_ne.2 (by omega)
        have HV := Lib.hid (isPol_off_no (scr := scr) (sty := sty) (img := img) (non := non) (by omega))
        clear m1 m2 k1 k2 k3
        go_enter Tryz.func178, Tryz.ntmps178
        go_wp2_with fail
        go_ret
        exact ⟨by rw [HV.out]; rfl, HG.out⟩
    · have b1 : ((n1 : Int) == 0) = false := beq_eq_false_iff_ne.2 (by omega)
      have HV := Lib.hid (isPol_off_no (scr := scr) (sty := sty) (img := img) (non := non) (by omega))
      clear m1 k1 k2 k3
      go_enter Tryz.func178, Tryz.ntmps178
      go_wp2_with fail
      go_ret
      exact ⟨by rw [HV.out]; rfl, HG.out⟩
  | true =>
    obtain ⟨W, hW⟩ : ∃ W, w.alloc (.cells #[.bool true, .slice a1 n1 c1, .slice a2 n2 c2, .slice a3 n3 c3, .string non] 26) = W := ⟨_, rfl⟩
    have HG := Lib.hid (show Grw w W by rw [← hW]; exact (Grw.refl w).alloc _)
    have q0 : W.cell? ⟨w.heap.size, 0, none⟩ = some (.bool true) := by rw [← hW]; simp
    have q1 : W.cell? ⟨w.heap.size, 1, none⟩ = some (.slice a1 n1 c1) := by rw [← hW]; simp
    have q2 : W.cell? ⟨w.heap.size, 2, none⟩ = some (.slice a2 n2 c2) := by rw [← hW]; simp
    have q3 : W.cell? ⟨w.heap.size, 3, none⟩ = some (.slice a3 n3 c3) := by rw [← hW]; simp
    have q4 : W.cell? ⟨w.heap.size, 4, none⟩ = some (.string non) := by rw [← hW]; simp
    obtain ⟨hr1, hr2, hr3⟩ := (hr.below HG.out.below (Nat.le_refl _)).mono HG.out.below.size
    have HR1 := Lib.hid hr1; have HR2 := Lib.hid hr2; have HR3 := Lib.hid hr3; clear hr hr1 hr2 hr3
    have HC1 := Lib.hid (names_spec _ _ _ _ HR1.out (small_of z1))
    have HC2 := Lib.hid (names_spec _ _ _ _ HR2.out (small_of z2))
    have HC3 := Lib.hid (names_spec _ _ _ _ HR3.out (small_of z3))
    have HC4 := Lib.hid (fun X => val_spec non (by have := z4; simp only at this; omega) X)
    have HIP := Lib.hid (show isPol ⟨true, scr, sty, img, non⟩ = (okHosts scr && okHosts sty && okHosts img && (decide (non.size = 0) || isVal non)) from if_pos rfl)
    clear z1 z2 z3 z4
    cases h1 : okHosts scr with
    | false =>
      rw [h1] at HC1 HIP
      have HV := Lib.hid (show isPol ⟨true, scr, sty, img, non⟩ = false by rw [HIP.out]; simp); clear h1
      go_enter Tryz.func178, Tryz.ntmps178
      go_wp2_with fail
      refine HC1.out.mono ?_
      rintro e w1 ⟨rfl, rfl⟩
      go_wp2_with fail
      go_ret
      exact ⟨by rw [HV.out]; rfl, HG.out⟩
    | true =>
      rw [h1] at HC1 HIP; clear h1
      cases h2 : okHosts sty with
      | false =>
        rw [h2] at HC2 HIP
        have HV := Lib.hid (show isPol ⟨true, scr, sty, img, non⟩ = false by rw [HIP.out]; simp); clear h2
        go_enter Tryz.func178, Tryz.ntmps178
        go_wp2_with fail
        refine HC1.out.mono ?_
        rintro e w1 ⟨rfl, rfl⟩
        go_wp2_with fail
        refine HC2.out.mono ?_
        rintro e w2 ⟨rfl, rfl⟩
        go_wp2_with fail
        go_ret
        exact ⟨by rw [HV.out]; rfl, HG.out⟩
      | true =>
        rw [h2] at HC2 HIP; clear h2
        cases h3 : okHosts img with
        | false =>
          rw [h3] at HC3 HIP
          have HV := Lib.hid (show isPol ⟨true, scr, sty, img, non⟩ = false by rw [HIP.out]; simp); clear h3
          go_enter Tryz.func178, Tryz.ntmps178
          go_wp2_with fail
          refine HC1.out.mono ?_
          rintro e w1 ⟨rfl, rfl⟩
          go_wp2_with fail
          refine HC2.out.mono ?_
          rintro e w2 ⟨rfl, rfl⟩
          go_wp2_with fail
          refine HC3.out.mono ?_
          rintro e w3 ⟨rfl, rfl⟩
          go_wp2_with fail
          go_ret
          exact ⟨by rw [HV.out]; rfl, HG.out⟩
        | true =>
          rw [h3] at HC3 HIP; clear h3
          by_cases m4 : non.size = 0
          · have b4 : (non.toList == []) = true := by rw [empP_size, decide_eq_true m4]
            have HV := Lib.hid (show isPol ⟨true, scr, sty, img, non⟩ = true by rw [HIP.out, decide_eq_true m4]; rfl); clear m4
            go_enter Tryz.func178, Tryz.ntmps178
            go_wp2_with fail
            refine HC1.out.mono ?_
            rintro e w1 ⟨rfl, rfl⟩
            go_wp2_with fail
            refine HC2.out.mono ?_
            rintro e w2 ⟨rfl, rfl⟩
            go_wp2_with fail
            refine HC3.out.mono ?_
            rintro e w3 ⟨rfl, rfl⟩
            go_wp2_with fail
            go_ret
            exact ⟨by rw [HV.out]; rfl, HG.out⟩
          · have b4 : (non.toList == []) = false := by rw [empP_size, decide_eq_false m4]
            have HV := Lib.hid (show isPol ⟨true, scr, sty, img, non⟩ = isVal non by rw [HIP.out, decide_eq_false m4]; rfl); clear m4
            go_enter Tryz.func178, Tryz.ntmps178
            go_wp2_with fail
            refine HC1.out.mono ?_
            rintro e w1 ⟨rfl, rfl⟩
            go_wp2_with fail
            refine HC2.out.mono ?_
            rintro e w2 ⟨rfl, rfl⟩
            go_wp2_with fail
            refine HC3.out.mono ?_
            rintro e w3 ⟨rfl, rfl⟩
            go_wp2_with fail
            refine (HC4.out _).mono ?_
            rintro e w4 ⟨rfl, rfl⟩
            go_wp2_with fail
            go_ret
            exact ⟨by rw [HV.out]; rfl, HG.out⟩

set_option maxRecDepth 100000 in
set_option maxHeartbeats 4000000 in
theorem isPol_impl (set : Bool) (scr sty img : List ByteArray) (non : ByteArray) (a1 : Option Addr) (n1 c1 : Nat) (a2 : Option Addr) (n2 c2 : Nat) (a3 : Option Addr) (n3 c3 : Nat) (hz : PolSm ⟨set, scr, sty, img, non⟩) (w : World) (hr : ReadP w.heap.size w (.slice a1 n1 c1) (.slice a2 n2 c2) (.slice a3 n3 c3) ⟨set, scr, sty, img, non⟩) :
    Calls Tryz.prog 186 #[.agg #[.bool set, .slice a1 n1 c1, .slice a2 n2 c2, .slice a3 n3 c3, .string non]] w fun e w' => e = .returned (.bool (isPol ⟨set, scr, sty, img, non⟩)) ∧ Grw w w' := by
  obtain ⟨z1, z2, z3, z4⟩ := hz
  cases set with
  | false =>
    obtain ⟨W, hW⟩ : ∃ W, w.alloc (.cells #[.bool false, .slice a1 n1 c1, .slice a2 n2 c2, .slice a3 n3 c3, .string non] 26) = W := ⟨_, rfl⟩
    have HG := Lib.hid (show Grw w W by rw [← hW]; exact (Grw.refl w).alloc _)
    have q0 : W.cell? ⟨w.heap.size, 0, none⟩ = some (.bool false) := by rw [← hW]; simp
    have q1 : W.cell? ⟨w.heap.size, 1, none⟩ = some (.slice a1 n1 c1) := by rw [← hW]; simp
    have q2 : W.cell? ⟨w.heap.size, 2, none⟩ = some (.slice a2 n2 c2) := by rw [← hW]; simp
    have q3 : W.cell? ⟨w.heap.size, 3, none⟩ = some (.slice a3 n3 c3) := by rw [← hW]; simp
    have q4 : W.cell? ⟨w.heap.size, 4, none⟩ = some (.string non) := by rw [← hW]; simp
    obtain ⟨hr1, hr2, hr3⟩ := (hr.below HG.out.below (Nat.le_refl _)).mono HG.out.below.size
    have HR1 := Lib.hid hr1; have HR2 := Lib.hid hr2; have HR3 := Lib.hid hr3; clear hr hr1 hr2 hr3
    have HE := Lib.hid (show Calls Tryz.prog 210 #[.agg #[.bool false, .slice a1 n1 c1, .slice a2 n2 c2, .slice a3 n3 c3, .string non], .agg #[.bool false, .slice none 0 0, .slice none 0 0, .slice none 0 0, .string ⟨#[]⟩]] W fun e w' => e = .returned (.bool (isPol ⟨false, scr, sty, img, non⟩)) ∧ Grw W w' from by rw [← isPol_eqZ]; exact eqPol_impl false scr sty img non _ _ _ _ _ _ _ _ _ false [] [] [] ⟨#[]⟩ none 0 0 none 0 0 none 0 0 W ⟨HR1.out, HR2.out, HR3.out⟩ ⟨nilReads _ _, nilReads _ _, nilReads _ _⟩)
    clear z1 z2 z3 z4
    go_enter Tryz.func186, Tryz.ntmps186
    go_wp2_with fail
    refine HE.out.mono ?_
    rintro e w1 ⟨rfl, hg⟩
    have HG1 := Lib.hid (HG.out.trans hg); clear hg
    go_wp2_with fail
    go_ret
    exact ⟨rfl, HG1.out⟩
  | true =>
    obtain ⟨W, hW⟩ : ∃ W, w.alloc (.cells #[.bool true, .slice a1 n1 c1, .slice a2 n2 c2, .slice a3 n3 c3, .string non] 26) = W := ⟨_, rfl⟩
    have HG := Lib.hid (show Grw w W by rw [← hW]; exact (Grw.refl w).alloc _)
    have q0 : W.cell? ⟨w.heap.size, 0, none⟩ = some (.bool true) := by rw [← hW]; simp
    have q1 : W.cell? ⟨w.heap.size, 1, none⟩ = some (.slice a1 n1 c1) := by rw [← hW]; simp
    have q2 : W.cell? ⟨w.heap.size, 2, none⟩ = some (.slice a2 n2 c2) := by rw [← hW]; simp
    have q3 : W.cell? ⟨w.heap.size, 3, none⟩ = some (.slice a3 n3 c3) := by rw [← hW]; simp
    have q4 : W.cell? ⟨w.heap.size, 4, none⟩ = some (.string non) := by rw [← hW]; simp
    obtain ⟨hr1, hr2, hr3⟩ := (hr.below HG.out.below (Nat.le_refl _)).mono HG.out.below.size
    have HR1 := Lib.hid hr1; have HR2 := Lib.hid hr2; have HR3 := Lib.hid hr3; clear hr hr1 hr2 hr3
    have HC1 := Lib.hid (names_impl _ _ _ _ HR1.out (small_of z1))
    have HC2 := Lib.hid (names_impl _ _ _ _ HR2.out (small_of z2))
    have HC3 := Lib.hid (names_impl _ _ _ _ HR3.out (small_of z3))
    have HC4 := Lib.hid (fun X => val_impl non (by have := z4; simp only at this; omega) X)
    have HIP := Lib.hid (show isPol ⟨true, scr, sty, img, non⟩ = (okHosts scr && okHosts sty && okHosts img && (decide (non.size = 0) || isVal non)) from if_pos rfl)
    clear z1 z2 z3 z4
    cases h1 : okHosts scr with
    | false =>
      rw [h1] at HC1 HIP
      have HV := Lib.hid (show isPol ⟨true, scr, sty, img, non⟩ = false by rw [HIP.out]; simp); clear h1
      go_enter Tryz.func186, Tryz.ntmps186
      go_wp2_with fail
      refine HC1.out.mono ?_
      rintro e w1 ⟨rfl, rfl⟩
      go_wp2_with fail
      go_ret
      exact ⟨by rw [HV.out]; rfl, HG.out⟩
    | true =>
      rw [h1] at HC1 HIP; clear h1
      cases h2 : okHosts sty with
      | false =>
        rw [h2] at HC2 HIP
        have HV := Lib.hid (show isPol ⟨true, scr, sty, img, non⟩ = false by rw [HIP.out]; simp); clear h2
        go_enter Tryz.func186, Tryz.ntmps186
        go_wp2_with fail
        refine HC1.out.mono ?_
        rintro e w1 ⟨rfl, rfl⟩
        go_wp2_with fail
        refine HC2.out.mono ?_
        rintro e w2 ⟨rfl, rfl⟩
        go_wp2_with fail
        go_ret
        exact ⟨by rw [HV.out]; rfl, HG.out⟩
      | true =>
        rw [h2] at HC2 HIP; clear h2
        cases h3 : okHosts img with
        | false =>
          rw [h3] at HC3 HIP
          have HV := Lib.hid (show isPol ⟨true, scr, sty, img, non⟩ = false by rw [HIP.out]; simp); clear h3
          go_enter Tryz.func186, Tryz.ntmps186
          go_wp2_with fail
          refine HC1.out.mono ?_
          rintro e w1 ⟨rfl, rfl⟩
          go_wp2_with fail
          refine HC2.out.mono ?_
          rintro e w2 ⟨rfl, rfl⟩
          go_wp2_with fail
          refine HC3.out.mono ?_
          rintro e w3 ⟨rfl, rfl⟩
          go_wp2_with fail
          go_ret
          exact ⟨by rw [HV.out]; rfl, HG.out⟩
        | true =>
          rw [h3] at HC3 HIP; clear h3
          by_cases m4 : non.size = 0
          · have b4 : (non.toList == []) = true := by rw [empP_size, decide_eq_true m4]
            have HV := Lib.hid (show isPol ⟨true, scr, sty, img, non⟩ = true by rw [HIP.out, decide_eq_true m4]; rfl); clear m4
            go_enter Tryz.func186, Tryz.ntmps186
            go_wp2_with fail
            refine HC1.out.mono ?_
            rintro e w1 ⟨rfl, rfl⟩
            go_wp2_with fail
            refine HC2.out.mono ?_
            rintro e w2 ⟨rfl, rfl⟩
            go_wp2_with fail
            refine HC3.out.mono ?_
            rintro e w3 ⟨rfl, rfl⟩
            go_wp2_with fail
            go_ret
            exact ⟨by rw [HV.out]; rfl, HG.out⟩
          · have b4 : (non.toList == []) = false := by rw [empP_size, decide_eq_false m4]
            have HV := Lib.hid (show isPol ⟨true, scr, sty, img, non⟩ = isVal non by rw [HIP.out, decide_eq_false m4]; rfl); clear m4
            go_enter Tryz.func186, Tryz.ntmps186
            go_wp2_with fail
            refine HC1.out.mono ?_
            rintro e w1 ⟨rfl, rfl⟩
            go_wp2_with fail
            refine HC2.out.mono ?_
            rintro e w2 ⟨rfl, rfl⟩
            go_wp2_with fail
            refine HC3.out.mono ?_
            rintro e w3 ⟨rfl, rfl⟩
            go_wp2_with fail
            refine (HC4.out _).mono ?_
            rintro e w4 ⟨rfl, rfl⟩
            go_wp2_with fail
            go_ret
            exact ⟨by rw [HV.out]; rfl, HG.out⟩

end Go.Proofs.YtkjjiinccljhjaaGreatDoor
namespace Go.Proofs.YtkjjiinccljhjaaGreatDoor
open Go.ChangeShapes Go.WideShapes Go.ChangeAt Go.RowKit

theorem bl_tr {w X w' : World} (h : Below w.heap.size w X) (k : Below X.heap.size X w') : Below w.heap.size w w' := h.trans (k.mono h.size)
theorem bl_via {B : Nat} {w0 w X : World} (h : Below B w0 w) (hB : B ≤ w.heap.size) (k : Below w.heap.size w X) : Below B w0 X := h.trans (k.mono hB)
theorem bl_dw {B : Nat} {w w' : World} (h : Below B w w') : Below B w w'.drew := h.drew
theorem bl_aw {w w' : World} (h : Below w.heap.size w w') (o : Obj) : Below w.heap.size w (w'.alloc o) := h.alloc h.size o
theorem hq_dr {w : World} {g : Nat} {o : Obj} (h : w.heap[g]? = some o) : w.drew.heap[g]? = some o := h
theorem hq_nw {w : World} {g : Nat} {o : Obj} (h : w.heap.size = g) : (w.alloc o).heap[g]? = some o := by subst h; exact (MapKept.heap_alloc w o).1
theorem box_ca {w : World} {o o' : Obj} {g : Nat} (h : w.heap[g]? = some o) : (w.alloc o').heap[g]? = some o := by
  rw [Below.heap_alloc _ _ _ (heap_lt h)]; exact h
theorem box3_0 (w : World) (o1 o2 o3 : Obj) : (((w.alloc o1).alloc o2).alloc o3).heap[w.heap.size]? = some o1 := box_ca (box_ca (heap_alloc_new _ _))
theorem box3_1 (w : World) (o1 o2 o3 : Obj) : (((w.alloc o1).alloc o2).alloc o3).heap[w.heap.size + 1]? = some o2 := box_ca (by rw [← World.size_alloc]; exact heap_alloc_new _ _)
theorem box3_2 (w : World) (o1 o2 o3 : Obj) : (((w.alloc o1).alloc o2).alloc o3).heap[w.heap.size + 1 + 1]? = some o3 := by
  have h := heap_alloc_new ((w.alloc o1).alloc o2) o3
  rw [World.size_alloc, World.size_alloc] at h; exact h
/-- One cell of a box is stored. -/
theorem box_set {w : World} {b o : Nat} {cs : Array Value} {T : TypeId} (h : w.heap[b]? = some (.cells cs T (0, 0))) (u : Value) : (w.setCell ⟨b, o, none⟩ u).heap[b]? = some (.cells (cs.setIfInBounds o u) T (0, 0)) := by
  show (w.heap.modify b _)[b]? = _
  rw [Array.getElem?_modify, if_pos rfl, h]; rfl
theorem box_off {w : World} {b r o : Nat} {x : Obj} (h : w.heap[b]? = some x) (hne : b ≠ r) (u : Value) : (w.setCell ⟨r, o, none⟩ u).heap[b]? = some x := by
  rw [Below.heap_setCell _ _ _ _ hne]; exact h

end Go.Proofs.YtkjjiinccljhjaaGreatDoor
namespace Go.Proofs.YtkjjiinccljhjaaGreatDoor
open Go.ChangeShapes Go.WideShapes Go.ChangeAt Go.RowKit

theorem sumSt_take (xs : List ByteArray) (k : Nat) : sumSt (xs.take k) ≤ sumSt xs := by
  have : sumSt xs = sumSt (xs.take k) + sumSt (xs.drop k) := by
    conv => lhs; rw [← List.take_append_drop k xs]
    unfold sumSt; rw [List.map_append, List.sum_append]
  omega
theorem takeS {xs : List ByteArray} {k : Nat} {x : ByteArray} (h : xs[k]? = some x) : xs.take (k + 1) = xs.take k ++ [x] := by
  rw [List.take_add_one, h]; rfl
theorem spS_size : spS.size = 1 := rfl
theorem scS_size : scS.size = 1 := rfl

set_option maxRecDepth 100000 in
set_option maxHeartbeats 2000000 in
theorem words9_spec (v : Value) (hi : Nat) (xs : List ByteArray) (u : ByteArray) (w : World) (hr : ReadsK encS 1 hi w v xs) (hu : u.size ≤ 6) (hz : xs.length + sumSt xs ≤ 1048576) :
    Calls Tryz.prog 179 #[.string u, v] w fun e w' => e = .returned (.string (wordsS u xs)) ∧ w = w' := by
  obtain ⟨a, cap, rfl, hc1, hc2, _⟩ := id hr
  obtain ⟨tx, htx⟩ : ∃ f : Nat → ByteArray, f = fun m => wordsS u (xs.take m) := ⟨_, rfl⟩
  have HTX := Lib.hid htx
  have HTS := Lib.hid (fun m => show (tx m).size ≤ 1048582 by
    rw [htx]
    show (wordsS u (xs.take m)).size ≤ _
    rw [wordsS_size]
    have h2 := sumSt_take xs m
    have h3 := List.length_take_le' m xs
    omega)
  have HZ := Lib.hid hz
  obtain ⟨n, hn⟩ : ∃ n, xs.length = n := ⟨_, rfl⟩
  have h0 : tx 0 = u := by rw [htx]; rfl
  have H0 := Lib.hid h0
  rw [hn] at hr hc1 ⊢
  have HN := Lib.hid hn; have HR := Lib.hid hr; clear hn hr htx h0 hz
  go_enter Tryz.func179, Tryz.ntmps179
  go_wp2
  go_loop [0, 5] (fun c i => ∃ (k : Nat), k ≤ n ∧ i = .int .i64 k ∧ c = .string (tx k)) (fun _ i => n - (intOf i).toNat)
  case atStart => exact ⟨0, Nat.zero_le _, rfl, by rw [H0.out]⟩
  case round =>
    obtain ⟨k, hk, rfl, rfl⟩ := hrel
    by_cases hlt : (k : Int) < (n : Int)
    · obtain ⟨x, hx⟩ := ssAt (xs := xs) (j := k) (by have := HN.out; omega)
      obtain ⟨g, off, rfl, _, c0⟩ := str_cell HR.out hx
      have hxz : x.size ≤ 1048576 := by have h1 := sum_le_at (List.mem_of_getElem? hx); have h2 := HZ.out; unfold sumSt at h2; omega
      have hy := HTS.out k
      have hy1 := HTS.out (k + 1)
      have HX3 := Lib.hid (show tx (k + 1) = tx k ++ spS ++ x by rw [HTX.out]; show wordsS u (xs.take (k + 1)) = _; rw [takeS hx, wordsS_snoc])
      obtain ⟨X, hX⟩ : ∃ Y, tx k = Y := ⟨_, rfl⟩
      obtain ⟨X1, hX1⟩ : ∃ Y, X ++ spS = Y := ⟨_, rfl⟩
      obtain ⟨X2, hX2⟩ : ∃ Y, X1 ++ x = Y := ⟨_, rfl⟩
      rw [hX] at hy HX3 ⊢
      have hz1 : X1.size ≤ 1048583 := by rw [← hX1, ByteArray.size_append, spS_size]; omega
      have a1 : ∀ W, (Op.stringOp .add X ⟨#[32]⟩).run Tryz.prog W = .ok (.string X1) W := fun W => by rw [← hX1]; exact run_string_add_sum _ _ _ (by rw [show (⟨#[32]⟩ : ByteArray).size = 1 from rfl]; omega)
      have a2 : ∀ W, (Op.stringOp .add X1 x).run Tryz.prog W = .ok (.string X2) W := fun W => by rw [← hX2]; exact run_string_add_sum _ _ _ (by omega)
      have HXE := Lib.hid (show X2 = tx (k + 1) by rw [HX3.out, ← hX2, ← hX1])
      clear hX hX1 hX2 hx
      go_wp2
      go_round
      case rel => exact ⟨k + 1, by omega, by go_num, by rw [← HXE.out]⟩
      case measure => simp [intOf]; omega
    · have hlf : decide ((k : Int) < (n : Int)) = false := decide_eq_false hlt
      have HV := Lib.hid (show tx k = wordsS u xs by rw [HTX.out]; show wordsS u (xs.take k) = _; rw [List.take_of_length_le (by have := HN.out; omega)])
      go_wp2
      go_ret
      exact ⟨by rw [← HV.out]; rfl, rfl⟩

theorem mineS_lit {w0 w : World} {B : Nat} (x : ByteArray) (hb : Below B w0 w) (hB : B ≤ w.heap.size) : MineK encS 1 9 B w0 (w.alloc (.cells #[.string x] 9)) (.slice (some ⟨w.heap.size, 0, none⟩) 1 1) [x] :=
  ⟨World.ownsRow_lit (base := B) (e := 9) (size := 1) w #[.string x] 1 hB (by decide) rfl, hb.alloc hB _, by simp; omega⟩
theorem own_strs9 {lo hi g n c : Nat} {w : World} {xs : List ByteArray} (h : OwnK encS 1 9 lo hi w (.slice (some ⟨g, 0, none⟩) n c) xs) (hn : xs.length = n) : g < w.heap.size ∧ n ≤ c ∧ ∀ (j : Nat) x, xs[j]? = some x → w.cell? ⟨g, 0 + j, none⟩ = some (.string x) := by
  have hr := h.reads encS_len
  rcases h.1.2 with ⟨e, _⟩ | ⟨g', cap, cur, e, hg, hh, hc, hm, _⟩
  · cases e
  · cases e
    refine ⟨heap_lt hh, by omega, fun j x hj => ?_⟩
    have := hr.news encS_len j (.string x) (by
      have := flat_at encS_len hj (show 0 < 1 by decide)
      simpa [encS] using this)
    rwa [add_off] at this
theorem mineS_some9 {B : Nat} {w0 w : World} {v : Value} {xs : List ByteArray} (h : MineK encS 1 9 B w0 w v xs) (h1 : 1 ≤ xs.length) : ∃ g c, v = .slice (some ⟨g, 0, none⟩) xs.length c := by
  rcases h.row.2 with ⟨e, h0⟩ | ⟨g, cap, cur, e, _⟩
  · omega
  · exact ⟨g, cap, e⟩
theorem join_words (u : ByteArray) (xs : List ByteArray) : Lib.join ((u :: xs).map (·.data.toList)) [32] = (wordsS u xs).data.toList := by
  rw [wordsS_list, List.map_cons, Lib.join_cons]
  congr 1
  unfold Lib.joinTail hostsL
  rw [List.map_map, List.flatMap_def]
  rfl

set_option maxRecDepth 100000 in
set_option maxHeartbeats 2000000 in
theorem formatHosts_impl (v : Value) (hi : Nat) (xs : List ByteArray) (u : ByteArray) (w : World) (hr : ReadsK encS 1 hi w v xs) (hh : hi ≤ w.heap.size) (hu : u.size ≤ 6) (hz : xs.length + sumSt xs ≤ 1048576) :
    Calls Tryz.prog 187 #[.string u, v] w fun e w' => e = .returned (.string (wordsS u xs)) ∧ Below w.heap.size w w' := by
  have HR := Lib.hid (hr.below ((Below.refl w.heap.size w).alloc (Nat.le_refl _) (.cells #[.string u] 9)) hh)
  have HM := Lib.hid (mineS_lit u (Below.refl w.heap.size w) (Nat.le_refl _))
  have HZ := Lib.hid hz
  clear hr hz
  go_enter Tryz.func187, Tryz.ntmps187
  go_wp2_with (at_builtin; refine wpList_appS rfl _ _ rfl w.heap.size w _ [u] rfl HM.out _ _ xs rfl HR.out ?c3 ?_)
  case c3 => have := HZ.out; simp; omega
  intro v' w1 hM'
  obtain ⟨g, c, rfl⟩ := mineS_some9 hM' (by simp)
  obtain ⟨hbw, hcp, hcl⟩ := own_strs9 hM'.own rfl
  have hJ := Tryz.strings_Join g 0 c ([u] ++ xs) ⟨#[32]⟩ w1 hcl hbw (by have := HZ.out; simp; omega) hcp (by
    rw [show [u] ++ xs = u :: xs from rfl, show (⟨#[32]⟩ : ByteArray).data.toList = [32] from rfl, join_words, size_list, wordsS_size]; have := HZ.out; omega)
  rw [show ([u] ++ xs).map (·.data.toList) = (u :: xs).map (·.data.toList) from rfl, show (⟨#[32]⟩ : ByteArray).data.toList = [32] from rfl, join_words] at hJ
  have HJ := Lib.hid hJ
  have HM2 := Lib.hid hM'
  clear hJ hcl hM' hbw hcp
  go_wp2_with fail
  refine HJ.out.mono ?_
  rintro e w2 ⟨rfl, hb2⟩
  have HB2 := Lib.hid (HM2.out.below.trans (hb2.mono HM2.out.size))
  clear hb2
  go_wp2_with fail
  go_ret
  exact ⟨by rfl, HB2.out⟩

end Go.Proofs.YtkjjiinccljhjaaGreatDoor
namespace Go.Proofs.YtkjjiinccljhjaaGreatDoor
open Go.ChangeShapes Go.WideShapes Go.ChangeAt Go.RowKit

theorem bothS_snoc (ys : List ByteArray) {xs : List ByteArray} {k : Nat} {x : ByteArray} (h : xs[k]? = some x) : bothS (xs.take (k + 1)) ys = bothS (xs.take k) ys ++ (if hasS ys x = true then [x] else []) := by
  unfold bothS
  rw [takeS h, List.filter_append]
  congr 1
  by_cases e : hasS ys x = true
  · rw [if_pos e, List.filter_cons, if_pos e]; rfl
  · rw [if_neg e, List.filter_cons, if_neg e]; rfl
theorem bothS_len (xs ys : List ByteArray) : (bothS xs ys).length ≤ xs.length := List.length_filter_le _ _
theorem sumSt_filter (p : ByteArray → Bool) : ∀ xs : List ByteArray, sumSt (xs.filter p) ≤ sumSt xs
  | [] => Nat.le_refl _
  | x :: xs => by
    have ih := sumSt_filter p xs
    rw [List.filter_cons]
    split
    · unfold sumSt at ih ⊢; rw [List.map_cons, List.map_cons, List.sum_cons, List.sum_cons]; omega
    · unfold sumSt at ih ⊢; rw [List.map_cons, List.sum_cons]; omega

end Go.Proofs.YtkjjiinccljhjaaGreatDoor

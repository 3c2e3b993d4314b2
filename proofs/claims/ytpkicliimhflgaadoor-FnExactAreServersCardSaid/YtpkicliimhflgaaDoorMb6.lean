/- Helper contracts: EqualPolicies of the program and of the model. Asked: the policies' slices read as named. Helper contracts: IsPolicy of the program and of the model. Asked: the policy's slices read as named, its strings are not too long. What stays below, in small steps. Helper facts, no claim of its own. Helper contracts: the words of a policy's form; FormatPolicy of the model and of the program. Asked: the policy's slices read as named, its strings are not too long. Helper contracts: what two lists of hosts have in common, a copy of one. Asked: the slices read as named, they are not too long. Copies, comparisons, marks of policies in the laws. Helper facts, no claim of its own. Helper contracts: a copy of a policy. Asked: the policy's slices read as named, they are not too long. Facts for ParsePolicy: how long what is read is, what the call owns. No claim of its own. -/
import Derived.Test.YtpkicliimhflgaaDoorMb5
import Derived.Test.YtpkicliimhflgaaDoorMb4
import Derived.Test.YtpkicliimhflgaaDoorMb2
import Derived.Test.YtpkicliimhflgaaDoorShelfJ
import Derived.Lib.Join
import Derived.Deep.RegionHeld3
import Derived.Laws.Concat
import Derived.Deep.CutRange
namespace Go.Proofs.YtpkicliimhflgaaDoor

open Go.ChangeShapes Go.WideShapes Go.ChangeAt Go.RowKit

set_option maxRecDepth 100000 in
set_option maxHeartbeats 4000000 in
theorem eqPol_impl (set : Bool) (scr sty img : List ByteArray) (non : ByteArray) (a1 : Option Addr) (n1 c1 : Nat) (a2 : Option Addr) (n2 c2 : Nat) (a3 : Option Addr) (n3 c3 : Nat) (set' : Bool) (scr' sty' img' : List ByteArray) (non' : ByteArray) (a1' : Option Addr) (n1' c1' : Nat) (a2' : Option Addr) (n2' c2' : Nat) (a3' : Option Addr) (n3' c3' : Nat) (w : World) (hr : ReadP w.heap.size w (.slice a1 n1 c1) (.slice a2 n2 c2) (.slice a3 n3 c3) ⟨set, scr, sty, img, non⟩) (hr' : ReadP w.heap.size w (.slice a1' n1' c1') (.slice a2' n2' c2') (.slice a3' n3' c3') ⟨set', scr', sty', img', non'⟩) :
    Calls Tryd.prog 70 #[.agg #[.bool set, .slice a1 n1 c1, .slice a2 n2 c2, .slice a3 n3 c3, .string non], .agg #[.bool set', .slice a1' n1' c1', .slice a2' n2' c2', .slice a3' n3' c3', .string non']] w fun e w' => e = .returned (.bool (eqP ⟨set, scr, sty, img, non⟩ ⟨set', scr', sty', img', non'⟩)) ∧ Grw w w' := by
  obtain ⟨W, hW⟩ : ∃ W, (w.alloc (.cells #[.bool set, .slice a1 n1 c1, .slice a2 n2 c2, .slice a3 n3 c3, .string non] 75)).alloc (.cells #[.bool set', .slice a1' n1' c1', .slice a2' n2' c2', .slice a3' n3' c3', .string non'] 75) = W := ⟨_, rfl⟩
  have HG := Lib.hid (show Grw w W by rw [← hW]; exact ((Grw.refl w).alloc _).alloc _)
  have q0 : W.cell? ⟨w.heap.size, 0, none⟩ = some (.bool set) := by rw [← hW]; simp
  have p0 : W.cell? ⟨w.heap.size + 1, 0, none⟩ = some (.bool set') := by rw [← hW]; simp
  have q1 : W.cell? ⟨w.heap.size, 1, none⟩ = some (.slice a1 n1 c1) := by rw [← hW]; simp
  have p1 : W.cell? ⟨w.heap.size + 1, 1, none⟩ = some (.slice a1' n1' c1') := by rw [← hW]; simp
  have q2 : W.cell? ⟨w.heap.size, 2, none⟩ = some (.slice a2 n2 c2) := by rw [← hW]; simp
  have p2 : W.cell? ⟨w.heap.size + 1, 2, none⟩ = some (.slice a2' n2' c2') := by rw [← hW]; simp
  have q3 : W.cell? ⟨w.heap.size, 3, none⟩ = some (.slice a3 n3 c3) := by rw [← hW]; simp
  have p3 : W.cell? ⟨w.heap.size + 1, 3, none⟩ = some (.slice a3' n3' c3') := by rw [← hW]; simp
  have q4 : W.cell? ⟨w.heap.size, 4, none⟩ = some (.string non) := by rw [← hW]; simp
  have p4 : W.cell? ⟨w.heap.size + 1, 4, none⟩ = some (.string non') := by rw [← hW]; simp
  obtain ⟨hr1, hr2, hr3⟩ := (hr.below HG.out.below (Nat.le_refl _)).mono HG.out.below.size
  obtain ⟨hs1, hs2, hs3⟩ := (hr'.below HG.out.below (Nat.le_refl _)).mono HG.out.below.size
  have HC1 := Lib.hid (fun (X : World) (hg : Grw W X) => equalS_lib _ _ _ _ _ _ X (hr1.grw (Nat.le_refl _) hg) (hs1.grw (Nat.le_refl _) hg))
  have HC2 := Lib.hid (fun (X : World) (hg : Grw W X) => equalS_lib _ _ _ _ _ _ X (hr2.grw (Nat.le_refl _) hg) (hs2.grw (Nat.le_refl _) hg))
  have HC3 := Lib.hid (fun (X : World) (hg : Grw W X) => equalS_lib _ _ _ _ _ _ X (hr3.grw (Nat.le_refl _) hg) (hs3.grw (Nat.le_refl _) hg))
  clear hr hr' hr1 hr2 hr3 hs1 hs2 hs3
  have HIP := Lib.hid (show eqP ⟨set, scr, sty, img, non⟩ ⟨set', scr', sty', img', non'⟩ = ((set == set') && decide (scr = scr') && decide (sty = sty') && decide (img = img') && decide (non = non')) from rfl)
  by_cases h0 : set = set'
  · have e0 : (set == set') = true := beq_iff_eq.2 h0
    rw [e0] at HIP; clear h0
    by_cases h1 : non = non'
    · have e1 : (non.toList == non'.toList) = true := beqL_yes h1
      rw [show decide (non = non') = true from decide_eq_true h1] at HIP; clear h1
      cases h2 : decide (scr = scr') with
      | false =>
        rw [h2] at HIP; simp only [h2] at HC1; clear h2
        have HV := Lib.hid (show eqP ⟨set, scr, sty, img, non⟩ ⟨set', scr', sty', img', non'⟩ = false by rw [HIP.out]; simp)
        go_enter Tryd.func70, Tryd.ntmps70
        go_wp2_with fail
        have HGW := Lib.hid (Grw.refl W)
        refine (HC1.out _ HGW.out).mono ?_
        rintro e x0 ⟨rfl, hg0⟩
        replace q0 := (hg0.below.cell (show (⟨w.heap.size, 0, none⟩ : Addr).block < _ from World.block_lt_of_cell? _ _ q0)).trans q0
        replace p0 := (hg0.below.cell (show (⟨w.heap.size + 1, 0, none⟩ : Addr).block < _ from World.block_lt_of_cell? _ _ p0)).trans p0
        replace q1 := (hg0.below.cell (show (⟨w.heap.size, 1, none⟩ : Addr).block < _ from World.block_lt_of_cell? _ _ q1)).trans q1
        replace p1 := (hg0.below.cell (show (⟨w.heap.size + 1, 1, none⟩ : Addr).block < _ from World.block_lt_of_cell? _ _ p1)).trans p1
        replace q2 := (hg0.below.cell (show (⟨w.heap.size, 2, none⟩ : Addr).block < _ from World.block_lt_of_cell? _ _ q2)).trans q2
        replace p2 := (hg0.below.cell (show (⟨w.heap.size + 1, 2, none⟩ : Addr).block < _ from World.block_lt_of_cell? _ _ p2)).trans p2
        replace q3 := (hg0.below.cell (show (⟨w.heap.size, 3, none⟩ : Addr).block < _ from World.block_lt_of_cell? _ _ q3)).trans q3
        replace p3 := (hg0.below.cell (show (⟨w.heap.size + 1, 3, none⟩ : Addr).block < _ from World.block_lt_of_cell? _ _ p3)).trans p3
        replace q4 := (hg0.below.cell (show (⟨w.heap.size, 4, none⟩ : Addr).block < _ from World.block_lt_of_cell? _ _ q4)).trans q4
        replace p4 := (hg0.below.cell (show (⟨w.heap.size + 1, 4, none⟩ : Addr).block < _ from World.block_lt_of_cell? _ _ p4)).trans p4
        replace HGW := Lib.hid (HGW.out.trans hg0); clear hg0
        go_wp2_with fail
        go_ret
        exact ⟨by rw [HV.out]; rfl, HG.out.trans HGW.out⟩
      | true =>
        rw [h2] at HIP; simp only [h2] at HC1; clear h2
        cases h3 : decide (sty = sty') with
        | false =>
          rw [h3] at HIP; simp only [h3] at HC2; clear h3
          have HV := Lib.hid (show eqP ⟨set, scr, sty, img, non⟩ ⟨set', scr', sty', img', non'⟩ = false by rw [HIP.out]; simp)
          go_enter Tryd.func70, Tryd.ntmps70
          go_wp2_with fail
          have HGW := Lib.hid (Grw.refl W)
          refine (HC1.out _ HGW.out).mono ?_
          rintro e x0 ⟨rfl, hg0⟩
          replace q0 := (hg0.below.cell (show (⟨w.heap.size, 0, none⟩ : Addr).block < _ from World.block_lt_of_cell? _ _ q0)).trans q0
          replace p0 := (hg0.below.cell (show (⟨w.heap.size + 1, 0, none⟩ : Addr).block < _ from World.block_lt_of_cell? _ _ p0)).trans p0
          replace q1 := (hg0.below.cell (show (⟨w.heap.size, 1, none⟩ : Addr).block < _ from World.block_lt_of_cell? _ _ q1)).trans q1
          replace p1 := (hg0.below.cell (show (⟨w.heap.size + 1, 1, none⟩ : Addr).block < _ from World.block_lt_of_cell? _ _ p1)).trans p1
          replace q2 := (hg0.below.cell (show (⟨w.heap.size, 2, none⟩ : Addr).block < _ from World.block_lt_of_cell? _ _ q2)).trans q2
          replace p2 := (hg0.below.cell (show (⟨w.heap.size + 1, 2, none⟩ : Addr).block < _ from World.block_lt_of_cell? _ _ p2)).trans p2
          replace q3 := (hg0.below.cell (show (⟨w.heap.size, 3, none⟩ : Addr).block < _ from World.block_lt_of_cell? _ _ q3)).trans q3
          replace p3 := (hg0.below.cell (show (⟨w.heap.size + 1, 3, none⟩ : Addr).block < _ from World.block_lt_of_cell? _ _ p3)).trans p3
          replace q4 := (hg0.below.cell (show (⟨w.heap.size, 4, none⟩ : Addr).block < _ from World.block_lt_of_cell? _ _ q4)).trans q4
          replace p4 := (hg0.below.cell (show (⟨w.heap.size + 1, 4, none⟩ : Addr).block < _ from World.block_lt_of_cell? _ _ p4)).trans p4
          replace HGW := Lib.hid (HGW.out.trans hg0); clear hg0
          go_wp2_with fail
          refine (HC2.out _ HGW.out).mono ?_
          rintro e x1 ⟨rfl, hg1⟩
          replace q0 := (hg1.below.cell (show (⟨w.heap.size, 0, none⟩ : Addr).block < _ from World.block_lt_of_cell? _ _ q0)).trans q0
          replace p0 := (hg1.below.cell (show (⟨w.heap.size + 1, 0, none⟩ : Addr).block < _ from World.block_lt_of_cell? _ _ p0)).trans p0
          replace q1 := (hg1.below.cell (show (⟨w.heap.size, 1, none⟩ : Addr).block < _ from World.block_lt_of_cell? _ _ q1)).trans q1
          replace p1 := (hg1.below.cell (show (⟨w.heap.size + 1, 1, none⟩ : Addr).block < _ from World.block_lt_of_cell? _ _ p1)).trans p1
          replace q2 := (hg1.below.cell (show (⟨w.heap.size, 2, none⟩ : Addr).block < _ from World.block_lt_of_cell? _ _ q2)).trans q2
          replace p2 := (hg1.below.cell (show (⟨w.heap.size + 1, 2, none⟩ : Addr).block < _ from World.block_lt_of_cell? _ _ p2)).trans p2
          replace q3 := (hg1.below.cell (show (⟨w.heap.size, 3, none⟩ : Addr).block < _ from World.block_lt_of_cell? _ _ q3)).trans q3
          replace p3 := (hg1.below.cell (show (⟨w.heap.size + 1, 3, none⟩ : Addr).block < _ from World.block_lt_of_cell? _ _ p3)).trans p3
          replace q4 := (hg1.below.cell (show (⟨w.heap.size, 4, none⟩ : Addr).block < _ from World.block_lt_of_cell? _ _ q4)).trans q4
          replace p4 := (hg1.below.cell (show (⟨w.heap.size + 1, 4, none⟩ : Addr).block < _ from World.block_lt_of_cell? _ _ p4)).trans p4
          replace HGW := Lib.hid (HGW.out.trans hg1); clear hg1
          go_wp2_with fail
          go_ret
          exact ⟨by rw [HV.out]; rfl, HG.out.trans HGW.out⟩
        | true =>
          rw [h3] at HIP; simp only [h3] at HC2; clear h3
          cases h4 : decide (img = img') with
          | false =>
            rw [h4] at HIP; simp only [h4] at HC3; clear h4
            have HV := Lib.hid (show eqP ⟨set, scr, sty, img, non⟩ ⟨set', scr', sty', img', non'⟩ = false by rw [HIP.out]; simp)
            go_enter Tryd.func70, Tryd.ntmps70
            go_wp2_with fail
            have HGW := Lib.hid (Grw.refl W)
            refine (HC1.out _ HGW.out).mono ?_
            rintro e x0 ⟨rfl, hg0⟩
            replace q0 := (hg0.below.cell (show (⟨w.heap.size, 0, none⟩ : Addr).block < _ from World.block_lt_of_cell? _ _ q0)).trans q0
            replace p0 := (hg0.below.cell (show (⟨w.heap.size + 1, 0, none⟩ : Addr).block < _ from World.block_lt_of_cell? _ _ p0)).trans p0
            replace q1 := (hg0.below.cell (show (⟨w.heap.size, 1, none⟩ : Addr).block < _ from World.block_lt_of_cell? _ _ q1)).trans q1
            replace p1 := (hg0.below.cell (show (⟨w.heap.size + 1, 1, none⟩ : Addr).block < _ from World.block_lt_of_cell? _ _ p1)).trans p1
            replace q2 := (hg0.below.cell (show (⟨w.heap.size, 2, none⟩ : Addr).block < _ from World.block_lt_of_cell? _ _ q2)).trans q2
            replace p2 := (hg0.below.cell (show (⟨w.heap.size + 1, 2, none⟩ : Addr).block < _ from World.block_lt_of_cell? _ _ p2)).trans p2
            replace q3 := (hg0.below.cell (show (⟨w.heap.size, 3, none⟩ : Addr).block < _ from World.block_lt_of_cell? _ _ q3)).trans q3
            replace p3 := (hg0.below.cell (show (⟨w.heap.size + 1, 3, none⟩ : Addr).block < _ from World.block_lt_of_cell? _ _ p3)).trans p3
            replace q4 := (hg0.below.cell (show (⟨w.heap.size, 4, none⟩ : Addr).block < _ from World.block_lt_of_cell? _ _ q4)).trans q4
            replace p4 := (hg0.below.cell (show (⟨w.heap.size + 1, 4, none⟩ : Addr).block < _ from World.block_lt_of_cell? _ _ p4)).trans p4
            replace HGW := Lib.hid (HGW.out.trans hg0); clear hg0
            go_wp2_with fail
            refine (HC2.out _ HGW.out).mono ?_
            rintro e x1 ⟨rfl, hg1⟩
            replace q0 := (hg1.below.cell (show (⟨w.heap.size, 0, none⟩ : Addr).block < _ from World.block_lt_of_cell? _ _ q0)).trans q0
            replace p0 := (hg1.below.cell (show (⟨w.heap.size + 1, 0, none⟩ : Addr).block < _ from World.block_lt_of_cell? _ _ p0)).trans p0
            replace q1 := (hg1.below.cell (show (⟨w.heap.size, 1, none⟩ : Addr).block < _ from World.block_lt_of_cell? _ _ q1)).trans q1
            replace p1 := (hg1.below.cell (show (⟨w.heap.size + 1, 1, none⟩ : Addr).block < _ from World.block_lt_of_cell? _ _ p1)).trans p1
            replace q2 := (hg1.below.cell (show (⟨w.heap.size, 2, none⟩ : Addr).block < _ from World.block_lt_of_cell? _ _ q2)).trans q2
            replace p2 := (hg1.below.cell (show (⟨w.heap.size + 1, 2, none⟩ : Addr).block < _ from World.block_lt_of_cell? _ _ p2)).trans p2
            replace q3 := (hg1.below.cell (show (⟨w.heap.size, 3, none⟩ : Addr).block < _ from World.block_lt_of_cell? _ _ q3)).trans q3
            replace p3 := (hg1.below.cell (show (⟨w.heap.size + 1, 3, none⟩ : Addr).block < _ from World.block_lt_of_cell? _ _ p3)).trans p3
            replace q4 := (hg1.below.cell (show (⟨w.heap.size, 4, none⟩ : Addr).block < _ from World.block_lt_of_cell? _ _ q4)).trans q4
            replace p4 := (hg1.below.cell (show (⟨w.heap.size + 1, 4, none⟩ : Addr).block < _ from World.block_lt_of_cell? _ _ p4)).trans p4
            replace HGW := Lib.hid (HGW.out.trans hg1); clear hg1
            go_wp2_with fail
            refine (HC3.out _ HGW.out).mono ?_
            rintro e x2 ⟨rfl, hg2⟩
            replace q0 := (hg2.below.cell (show (⟨w.heap.size, 0, none⟩ : Addr).block < _ from World.block_lt_of_cell? _ _ q0)).trans q0
            replace p0 := (hg2.below.cell (show (⟨w.heap.size + 1, 0, none⟩ : Addr).block < _ from World.block_lt_of_cell? _ _ p0)).trans p0
            replace q1 := (hg2.below.cell (show (⟨w.heap.size, 1, none⟩ : Addr).block < _ from World.block_lt_of_cell? _ _ q1)).trans q1
            replace p1 := (hg2.below.cell (show (⟨w.heap.size + 1, 1, none⟩ : Addr).block < _ from World.block_lt_of_cell? _ _ p1)).trans p1
            replace q2 := (hg2.below.cell (show (⟨w.heap.size, 2, none⟩ : Addr).block < _ from World.block_lt_of_cell? _ _ q2)).trans q2
            replace p2 := (hg2.below.cell (show (⟨w.heap.size + 1, 2, none⟩ : Addr).block < _ from World.block_lt_of_cell? _ _ p2)).trans p2
            replace q3 := (hg2.below.cell (show (⟨w.heap.size, 3, none⟩ : Addr).block < _ from World.block_lt_of_cell? _ _ q3)).trans q3
            replace p3 := (hg2.below.cell (show (⟨w.heap.size + 1, 3, none⟩ : Addr).block < _ from World.block_lt_of_cell? _ _ p3)).trans p3
            replace q4 := (hg2.below.cell (show (⟨w.heap.size, 4, none⟩ : Addr).block < _ from World.block_lt_of_cell? _ _ q4)).trans q4
            replace p4 := (hg2.below.cell (show (⟨w.heap.size + 1, 4, none⟩ : Addr).block < _ from World.block_lt_of_cell? _ _ p4)).trans p4
            replace HGW := Lib.hid (HGW.out.trans hg2); clear hg2
            go_wp2_with fail
            go_ret
            exact ⟨by rw [HV.out]; rfl, HG.out.trans HGW.out⟩
          | true =>
            rw [h4] at HIP; simp only [h4] at HC3; clear h4
            have HV := Lib.hid (show eqP ⟨set, scr, sty, img, non⟩ ⟨set', scr', sty', img', non'⟩ = true by rw [HIP.out]; rfl)
            go_enter Tryd.func70, Tryd.ntmps70
            go_wp2_with fail
            have HGW := Lib.hid (Grw.refl W)
            refine (HC1.out _ HGW.out).mono ?_
            rintro e x0 ⟨rfl, hg0⟩
            replace q0 := (hg0.below.cell (show (⟨w.heap.size, 0, none⟩ : Addr).block < _ from World.block_lt_of_cell? _ _ q0)).trans q0
            replace p0 := (hg0.below.cell (show (⟨w.heap.size + 1, 0, none⟩ : Addr).block < _ from World.block_lt_of_cell? _ _ p0)).trans p0
            replace q1 := (hg0.below.cell (show (⟨w.heap.size, 1, none⟩ : Addr).block < _ from World.block_lt_of_cell? _ _ q1)).trans q1
            replace p1 := (hg0.below.cell (show (⟨w.heap.size + 1, 1, none⟩ : Addr).block < _ from World.block_lt_of_cell? _ _ p1)).trans p1
            replace q2 := (hg0.below.cell (show (⟨w.heap.size, 2, none⟩ : Addr).block < _ from World.block_lt_of_cell? _ _ q2)).trans q2
            replace p2 := (hg0.below.cell (show (⟨w.heap.size + 1, 2, none⟩ : Addr).block < _ from World.block_lt_of_cell? _ _ p2)).trans p2
            replace q3 := (hg0.below.cell (show (⟨w.heap.size, 3, none⟩ : Addr).block < _ from World.block_lt_of_cell? _ _ q3)).trans q3
            replace p3 := (hg0.below.cell (show (⟨w.heap.size + 1, 3, none⟩ : Addr).block < _ from World.block_lt_of_cell? _ _ p3)).trans p3
            replace q4 := (hg0.below.cell (show (⟨w.heap.size, 4, none⟩ : Addr).block < _ from World.block_lt_of_cell? _ _ q4)).trans q4
            replace p4 := (hg0.below.cell (show (⟨w.heap.size + 1, 4, none⟩ : Addr).block < _ from World.block_lt_of_cell? _ _ p4)).trans p4
            replace HGW := Lib.hid (HGW.out.trans hg0); clear hg0
            go_wp2_with fail
            refine (HC2.out _ HGW.out).mono ?_
            rintro e x1 ⟨rfl, hg1⟩
            replace q0 := (hg1.below.cell (show (⟨w.heap.size, 0, none⟩ : Addr).block < _ from World.block_lt_of_cell? _ _ q0)).trans q0
            replace p0 := (hg1.below.cell (show (⟨w.heap.size + 1, 0, none⟩ : Addr).block < _ from World.block_lt_of_cell? _ _ p0)).trans p0
            replace q1 := (hg1.below.cell (show (⟨w.heap.size, 1, none⟩ : Addr).block < _ from World.block_lt_of_cell? _ _ q1)).trans q1
            replace p1 := (hg1.below.cell (show (⟨w.heap.size + 1, 1, none⟩ : Addr).block < _ from World.block_lt_of_cell? _ _ p1)).trans p1
            replace q2 := (hg1.below.cell (show (⟨w.heap.size, 2, none⟩ : Addr).block < _ from World.block_lt_of_cell? _ _ q2)).trans q2
            replace p2 := (hg1.below.cell (show (⟨w.heap.size + 1, 2, none⟩ : Addr).block < _ from World.block_lt_of_cell? _ _ p2)).trans p2
            replace q3 := (hg1.below.cell (show (⟨w.heap.size, 3, none⟩ : Addr).block < _ from World.block_lt_of_cell? _ _ q3)).trans q3
            replace p3 := (hg1.below.cell (show (⟨w.heap.size + 1, 3, none⟩ : Addr).block < _ from World.block_lt_of_cell? _ _ p3)).trans p3
            replace q4 := (hg1.below.cell (show (⟨w.heap.size, 4, none⟩ : Addr).block < _ from World.block_lt_of_cell? _ _ q4)).trans q4
            replace p4 := (hg1.below.cell (show (⟨w.heap.size + 1, 4, none⟩ : Addr).block < _ from World.block_lt_of_cell? _ _ p4)).trans p4
            replace HGW := Lib.hid (HGW.out.trans hg1); clear hg1
            go_wp2_with fail
            refine (HC3.out _ HGW.out).mono ?_
            rintro e x2 ⟨rfl, hg2⟩
            replace q0 := (hg2.below.cell (show (⟨w.heap.size, 0, none⟩ : Addr).block < _ from World.block_lt_of_cell? _ _ q0)).trans q0
            replace p0 := (hg2.below.cell (show (⟨w.heap.size + 1, 0, none⟩ : Addr).block < _ from World.block_lt_of_cell? _ _ p0)).trans p0
            replace q1 := (hg2.below.cell (show (⟨w.heap.size, 1, none⟩ : Addr).block < _ from World.block_lt_of_cell? _ _ q1)).trans q1
            replace p1 := (hg2.below.cell (show (⟨w.heap.size + 1, 1, none⟩ : Addr).block < _ from World.block_lt_of_cell? _ _ p1)).trans p1
            replace q2 := (hg2.below.cell (show (⟨w.heap.size, 2, none⟩ : Addr).block < _ from World.block_lt_of_cell? _ _ q2)).trans q2
            replace p2 := (hg2.below.cell (show (⟨w.heap.size + 1, 2, none⟩ : Addr).block < _ from World.block_lt_of_cell? _ _ p2)).trans p2
            replace q3 := (hg2.below.cell (show (⟨w.heap.size, 3, none⟩ : Addr).block < _ from World.block_lt_of_cell? _ _ q3)).trans q3
            replace p3 := (hg2.below.cell (show (⟨w.heap.size + 1, 3, none⟩ : Addr).block < _ from World.block_lt_of_cell? _ _ p3)).trans p3
            replace q4 := (hg2.below.cell (show (⟨w.heap.size, 4, none⟩ : Addr).block < _ from World.block_lt_of_cell? _ _ q4)).trans q4
            replace p4 := (hg2.below.cell (show (⟨w.heap.size + 1, 4, none⟩ : Addr).block < _ from World.block_lt_of_cell? _ _ p4)).trans p4
            replace HGW := Lib.hid (HGW.out.trans hg2); clear hg2
            go_wp2_with fail
            go_ret
            exact ⟨by rw [HV.out]; rfl, HG.out.trans HGW.out⟩
    · have e1 : (non.toList == non'.toList) = false := beqL_no h1
      rw [show decide (non = non') = false from decide_eq_false h1] at HIP; clear h1
      have HV := Lib.hid (show eqP ⟨set, scr, sty, img, non⟩ ⟨set', scr', sty', img', non'⟩ = false by rw [HIP.out]; simp)
      go_enter Tryd.func70, Tryd.ntmps70
      go_wp2_with fail
      have HGW := Lib.hid (Grw.refl W)
      go_ret
      exact ⟨by rw [HV.out]; rfl, HG.out.trans HGW.out⟩
  · have e0 : (set == set') = false := beq_eq_false_iff_ne.2 h0
    rw [e0] at HIP; clear h0
    have HV := Lib.hid (show eqP ⟨set, scr, sty, img, non⟩ ⟨set', scr', sty', img', non'⟩ = false by rw [HIP.out]; simp)
    go_enter Tryd.func70, Tryd.ntmps70
    go_wp2_with fail
    have HGW := Lib.hid (Grw.refl W)
    go_ret
    exact ⟨by rw [HV.out]; rfl, HG.out.trans HGW.out⟩

end Go.Proofs.YtpkicliimhflgaaDoor
namespace Go.Proofs.YtpkicliimhflgaaDoor
open Go.ChangeShapes Go.WideShapes Go.ChangeAt Go.RowKit

/-- The first k are names. -/
def nmTo (xs : List ByteArray) (k : Nat) : Prop := ∀ (j : Nat) (x : ByteArray), j < k → xs[j]? = some x → isNm x = true
theorem nmTo.zero (xs : List ByteArray) : nmTo xs 0 := fun _ _ h => absurd h (Nat.not_lt_zero _)
theorem nmTo.succ {xs : List ByteArray} {x : ByteArray} {k : Nat} (h : nmTo xs k) (hx : xs[k]? = some x) (hn : isNm x = true) : nmTo xs (k + 1) := by
  intro j y hj hy
  by_cases e : j = k
  · subst e; rw [hx] at hy; cases hy; exact hn
  · exact h j y (by omega) hy
theorem okHosts_full {xs : List ByteArray} {k : Nat} (h : nmTo xs k) (hk : xs.length = k) : okHosts xs = decide (xs.length ≤ 4) := by
  unfold okHosts
  have : xs.all isNm = true := List.all_eq_true.2 fun x hx => by
    obtain ⟨j, hj⟩ := List.mem_iff_getElem?.1 hx
    exact h j x (by have := (List.getElem?_eq_some_iff.1 hj).1; omega) hj
  rw [this, Bool.and_true]
theorem okHosts_bad {xs : List ByteArray} {x : ByteArray} {k : Nat} (hx : xs[k]? = some x) (h : isNm x = false) : okHosts xs = false := by
  unfold okHosts
  have : xs.all isNm = false := by
    rw [Bool.eq_false_iff]
    intro ha
    have := List.all_eq_true.1 ha x (List.mem_of_getElem? hx)
    rw [h] at this; cases this
  rw [this, Bool.and_false]
theorem okHosts_long {xs : List ByteArray} (h : ¬ xs.length ≤ 4) : okHosts xs = false := by
  unfold okHosts; rw [decide_eq_false h, Bool.false_and]

theorem nilReads (hi : Nat) (w : World) : ReadsK encS 1 hi w (.slice none 0 0) [] := ⟨none, 0, rfl, Nat.le_refl _, by omega, (fun _ => rfl), Or.inl rfl⟩
theorem ReadsK.len {hi n c : Nat} {w : World} {a : Option Addr} {xs : List ByteArray} (h : ReadsK encS 1 hi w (.slice a n c) xs) : n = xs.length := by
  obtain ⟨_, _, e, _⟩ := h
  injection e

/-- The strings of a policy are not too long. -/
def PolSm (p : Pol) : Prop := (p.scr.length + sumSt p.scr ≤ 1048576) ∧ (p.sty.length + sumSt p.sty ≤ 1048576) ∧ (p.img.length + sumSt p.img ≤ 1048576) ∧ p.non.size ≤ 1048576
theorem small_of {xs : List ByteArray} (h : xs.length + sumSt xs ≤ 1048576) : ∀ s ∈ xs, s.size ≤ 9223372036854775807 := fun s hs => by
  have := sum_le_at hs; unfold sumSt at h; omega
theorem isPol_off_no {scr sty img : List ByteArray} {non : ByteArray} (h : ¬ (scr.length = 0 ∧ sty.length = 0 ∧ img.length = 0 ∧ non.size = 0)) : isPol ⟨false, scr, sty, img, non⟩ = false := by
  rw [Bool.eq_false_iff]
  intro he
  unfold isPol at he
  rw [if_neg Bool.false_ne_true, Bool.and_eq_true, Bool.and_eq_true, Bool.and_eq_true] at he
  obtain ⟨⟨⟨a, b⟩, c⟩, d⟩ := he
  exact h ⟨of_decide_eq_true a, of_decide_eq_true b, of_decide_eq_true c, of_decide_eq_true d⟩
theorem isPol_off_yes {scr sty img : List ByteArray} {non : ByteArray} (h : scr.length = 0 ∧ sty.length = 0 ∧ img.length = 0 ∧ non.size = 0) : isPol ⟨false, scr, sty, img, non⟩ = true := by
  unfold isPol
  rw [if_neg Bool.false_ne_true, Bool.and_eq_true, Bool.and_eq_true, Bool.and_eq_true]
  exact ⟨⟨⟨decide_eq_true h.1, decide_eq_true h.2.1⟩, decide_eq_true h.2.2.1⟩, decide_eq_true h.2.2.2⟩
theorem isPol_eqZ (scr sty img : List ByteArray) (non : ByteArray) : eqP ⟨false, scr, sty, img, non⟩ polZ = isPol ⟨false, scr, sty, img, non⟩ := by
  have e : ∀ l : List ByteArray, decide (l = []) = decide (l.length = 0) := fun l => decide_eq_decide.2 List.length_eq_zero_iff.symm
  have e2 : decide (non = ⟨#[]⟩) = decide (non.size = 0) := decide_eq_decide.2 ⟨fun h => by rw [h]; rfl, emptyB⟩
  unfold eqP isPol polZ
  rw [if_neg Bool.false_ne_true]
  show ((false == false) && decide (scr = []) && decide (sty = []) && decide (img = []) && decide (non = ⟨#[]⟩)) = _
  rw [e, e, e, e2]; rfl

set_option maxRecDepth 100000 in
set_option maxHeartbeats 2000000 in
theorem names_spec (v : Value) (hi : Nat) (xs : List ByteArray) (w : World) (hr : ReadsK encS 1 hi w v xs) (hz : ∀ s ∈ xs, s.size ≤ 9223372036854775807) :
    Calls Tryd.prog 61 #[v] w fun e w' => e = .returned (.bool (okHosts xs)) ∧ w = w' := by
  obtain ⟨a, cap, rfl, hc1, hc2, _⟩ := id hr
  obtain ⟨n, hn⟩ : ∃ n, xs.length = n := ⟨_, rfl⟩
  rw [hn] at hr hc1 ⊢
  have HN := Lib.hid hn; have HR := Lib.hid hr; have HZ := Lib.hid hz; clear hn hr hz
  go_enter Tryd.func61, Tryd.ntmps61
  go_wp2
  go_loop [3] (fun i => ∃ (k : Nat), k ≤ n ∧ i = .int .i64 k ∧ nmTo xs k) (fun i => n - (intOf i).toNat)
  case atStart => exact ⟨0, Nat.zero_le _, rfl, nmTo.zero _⟩
  case round =>
    obtain ⟨k, hk, rfl, hnot⟩ := hrel
    have HNI := Lib.hid hnot; clear hnot
    by_cases hlt : (k : Int) < (n : Int)
    · obtain ⟨x, hx⟩ := ssAt (xs := xs) (j := k) (by have := HN.out; omega)
      obtain ⟨g, off, rfl, _, c0⟩ := str_cell HR.out hx
      have HX := Lib.hid hx; have hxz := HZ.out x (List.mem_of_getElem? hx); clear hx
      have HC := Lib.hid (fun W => nm_spec x hxz W)
      cases h1 : isNm x with
      | false =>
        have HV := Lib.hid (okHosts_bad HX.out h1)
        rw [h1] at HC; clear h1
        go_wp2_with (go_at_call 25; refine (HC.out _).mono ?_; rintro e w' ⟨rfl, rfl⟩)
        go_ret
        exact ⟨by rw [HV.out]; rfl, rfl⟩
      | true =>
        have HS := Lib.hid (HNI.out.succ HX.out h1)
        rw [h1] at HC; clear h1
        go_wp2_with (go_at_call 25; refine (HC.out _).mono ?_; rintro e w' ⟨rfl, rfl⟩)
        go_round
        case rel => exact ⟨k + 1, by omega, by go_num, HS.out⟩
        case measure => simp [intOf]; omega
    · have hlf : decide ((k : Int) < (n : Int)) = false := decide_eq_false hlt
      have HV := Lib.hid (okHosts_full (k := n) (by rw [show n = k by omega]; exact HNI.out) HN.out)
      by_cases h4 : (n : Int) ≤ 4
      · have h4d : decide ((n : Int) ≤ 4) = true := decide_eq_true h4
        have HW := Lib.hid (show okHosts xs = true by rw [HV.out, HN.out]; exact decide_eq_true (by omega))
        go_wp2
        go_ret
        exact ⟨by rw [HW.out]; rfl, rfl⟩
      · have h4d : decide ((n : Int) ≤ 4) = false := decide_eq_false h4
        have HW := Lib.hid (show okHosts xs = false by rw [HV.out, HN.out]; exact decide_eq_false (by omega))
        go_wp2
        go_ret
        exact ⟨by rw [HW.out]; rfl, rfl⟩

set_option maxRecDepth 100000 in
set_option maxHeartbeats 2000000 in
theorem names_impl (v : Value) (hi : Nat) (xs : List ByteArray) (w : World) (hr : ReadsK encS 1 hi w v xs) (hz : ∀ s ∈ xs, s.size ≤ 9223372036854775807) :
    Calls Tryd.prog 71 #[v] w fun e w' => e = .returned (.bool (okHosts xs)) ∧ w = w' := by
  obtain ⟨a, cap, rfl, hc1, hc2, _⟩ := id hr
  obtain ⟨n, hn⟩ : ∃ n, xs.length = n := ⟨_, rfl⟩
  rw [hn] at hr hc1 ⊢
  have HN := Lib.hid hn; have HR := Lib.hid hr; have HZ := Lib.hid hz; clear hn hr hz
  by_cases h4 : (4 : Int) < (n : Int)
  · have HV := Lib.hid (okHosts_long (xs := xs) (by have := HN.out; omega))
    go_enter Tryd.func71, Tryd.ntmps71
    go_wp2
    go_ret
    exact ⟨by rw [HV.out]; rfl, rfl⟩
  have h4d : decide ((4 : Int) < (n : Int)) = false := decide_eq_false h4
  go_enter Tryd.func71, Tryd.ntmps71
  go_wp2
  go_loop [10] (fun i => ∃ (k : Nat), k ≤ n ∧ i = .int .i64 k ∧ nmTo xs k) (fun i => n - (intOf i).toNat)
  case atStart => exact ⟨0, Nat.zero_le _, rfl, nmTo.zero _⟩
  case round =>
    obtain ⟨k, hk, rfl, hnot⟩ := hrel
    have HNI := Lib.hid hnot; clear hnot
    by_cases hlt : (k : Int) < (n : Int)
    · obtain ⟨x, hx⟩ := ssAt (xs := xs) (j := k) (by have := HN.out; omega)
      obtain ⟨g, off, rfl, _, c0⟩ := str_cell HR.out hx
      have HX := Lib.hid hx; have hxz := HZ.out x (List.mem_of_getElem? hx); clear hx
      have HC := Lib.hid (fun W => nm_impl x hxz W)
      cases h1 : isNm x with
      | false =>
        have HV := Lib.hid (okHosts_bad HX.out h1)
        rw [h1] at HC; clear h1
        go_wp2_with (go_at_call 28; refine (HC.out _).mono ?_; rintro e w' ⟨rfl, rfl⟩)
        go_ret
        exact ⟨by rw [HV.out]; rfl, rfl⟩
      | true =>
        have HS := Lib.hid (HNI.out.succ HX.out h1)
        rw [h1] at HC; clear h1
        go_wp2_with (go_at_call 28; refine (HC.out _).mono ?_; rintro e w' ⟨rfl, rfl⟩)
        go_round
        case rel => exact ⟨k + 1, by omega, by go_num, HS.out⟩
        case measure => simp [intOf]; omega
    · have hlf : decide ((k : Int) < (n : Int)) = false := decide_eq_false hlt
      have HV := Lib.hid (okHosts_full (k := n) (by rw [show n = k by omega]; exact HNI.out) HN.out)
      have HW := Lib.hid (show okHosts xs = true by rw [HV.out, HN.out]; exact decide_eq_true (by omega))
      go_wp2
      go_ret
      exact ⟨by rw [HW.out]; rfl, rfl⟩

set_option maxRecDepth 100000 in
set_option maxHeartbeats 4000000 in
theorem isPol_spec (set : Bool) (scr sty img : List ByteArray) (non : ByteArray) (a1 : Option Addr) (n1 c1 : Nat) (a2 : Option Addr) (n2 c2 : Nat) (a3 : Option Addr) (n3 c3 : Nat) (hz : PolSm ⟨set, scr, sty, img, non⟩) (w : World) (hr : ReadP w.heap.size w (.slice a1 n1 c1) (.slice a2 n2 c2) (.slice a3 n3 c3) ⟨set, scr, sty, img, non⟩) :
    Calls Tryd.prog 57 #[.agg #[.bool set, .slice a1 n1 c1, .slice a2 n2 c2, .slice a3 n3 c3, .string non]] w fun e w' => e = .returned (.bool (isPol ⟨set, scr, sty, img, non⟩)) ∧ Grw w w' := by
  obtain ⟨z1, z2, z3, z4⟩ := hz
  cases set with
  | false =>
    have k1 : n1 = scr.length := hr.1.len; have k2 : n2 = sty.length := hr.2.1.len; have k3 : n3 = img.length := hr.2.2.len
    obtain ⟨W, hW⟩ : ∃ W, w.alloc (.cells #[.bool false, .slice a1 n1 c1, .slice a2 n2 c2, .slice a3 n3 c3, .string non] 75) = W := ⟨_, rfl⟩
    have HG := Lib.hid (show Grw w W by rw [← hW]; exact (Grw.refl w).alloc _)
    have q0 : W.cell? ⟨w.heap.size, 0, none⟩ = some (.bool false) := by rw [← hW]; simp
    have q1 : W.cell? ⟨w.heap.size, 1, none⟩ = some (.slice a1 n1 c1) := by rw [← hW]; simp
    have q2 : W.cell? ⟨w.heap.size, 2, none⟩ = some (.slice a2 n2 c2) := by rw [← hW]; simp
    have q3 : W.cell? ⟨w.heap.size, 3, none⟩ = some (.slice a3 n3 c3) := by rw [← hW]; simp
    have q4 : W.cell? ⟨w.heap.size, 4, none⟩ = some (.string non) := by rw [← hW]; simp
    obtain ⟨hr1, hr2, hr3⟩ := (hr.below HG.out.below (Nat.le_refl _)).mono HG.out.below.size
    have HR1 := Lib.hid hr1; have HR2 := Lib.hid hr2; have HR3 := Lib.hid hr3; clear hr hr1 hr2 hr3
    clear z1 z2 z3 z4
    by_cases m1 : n1 = 0
    · have b1 : ((n1 : Int) == 0) = true := beq_iff_eq.2 (by omega)
      by_cases m2 : n2 = 0
      · have b2 : ((n2 : Int) == 0) = true := beq_iff_eq.2 (by omega)
        by_cases m3 : n3 = 0
        · have b3 : ((n3 : Int) == 0) = true := beq_iff_eq.2 (by omega)
          by_cases m4 : non.size = 0
          · have b4 : (non.toList == []) = true := by rw [empP_size, decide_eq_true m4]
            have HV := Lib.hid (isPol_off_yes (scr := scr) (sty := sty) (img := img) (non := non) (by omega))
            clear m1 m2 m3 m4 k1 k2 k3
            go_enter Tryd.func57, Tryd.ntmps57
            go_wp2_with fail
            go_ret
            exact ⟨by rw [HV.out]; rfl, HG.out⟩
          · have b4 : (non.toList == []) = false := by rw [empP_size, decide_eq_false m4]
            have HV := Lib.hid (isPol_off_no (scr := scr) (sty := sty) (img := img) (non := non) (by omega))
            clear m1 m2 m3 m4 k1 k2 k3
            go_enter Tryd.func57, Tryd.ntmps57
            go_wp2_with fail
            go_ret
            exact ⟨by rw [HV.out]; rfl, HG.out⟩
        · have b3 : ((n3 : Int) == 0) = false := beq_eq_false_iff_ne.2 (by omega)
          have HV := Lib.hid (isPol_off_no (scr := scr) (sty := sty) (img := img) (non := non) (by omega))
          clear m1 m2 m3 k1 k2 k3
          go_enter Tryd.func57, Tryd.ntmps57
          go_wp2_with fail
          go_ret
          exact ⟨by rw [HV.out]; rfl, HG.out⟩
      · have b2 : ((n2 : Int) == 0) = false := beq_eq_false_iff_ne.2 (by omega)
        have HV := Lib.hid (isPol_off_no (scr := scr) (sty := sty) (img := img) (non := non) (by omega))
        clear m1 m2 k1 k2 k3
        go_enter Tryd.func57, Tryd.ntmps57
        go_wp2_with fail
        go_ret
        exact ⟨by rw [HV.out]; rfl, HG.out⟩
    · have b1 : ((n1 : Int) == 0) = false := beq_eq_false_iff_ne.2 (by omega)
      have HV := Lib.hid (isPol_off_no (scr := scr) (sty := sty) (img := img) (non := non) (by omega))
      clear m1 k1 k2 k3
      go_enter Tryd.func57, Tryd.ntmps57
      go_wp2_with fail
      go_ret
      exact ⟨by rw [HV.out]; rfl, HG.out⟩
  | true =>
    obtain ⟨W, hW⟩ : ∃ W, w.alloc (.cells #[.bool true, .slice a1 n1 c1, .slice a2 n2 c2, .slice a3 n3 c3, .string non] 75) = W := ⟨_, rfl⟩
    have HG := Lib.hid (show Grw w W by rw [← hW]; exact (Grw.refl w).alloc _)
    have q0 : W.cell? ⟨w.heap.size, 0, none⟩ = some (.bool true) := by rw [← hW]; simp
    have q1 : W.cell? ⟨w.heap.size, 1, none⟩ = some (.slice a1 n1 c1) := by rw [← hW]; simp
    have q2 : W.cell? ⟨w.heap.size, 2, none⟩ = some (.slice a2 n2 c2) := by rw [← hW]; simp
    have q3 : W.cell? ⟨w.heap.size, 3, none⟩ = some (.slice a3 n3 c3) := by rw [← hW]; simp
    have q4 : W.cell? ⟨w.heap.size, 4, none⟩ = some (.string non) := by rw [← hW]; simp
    obtain ⟨hr1, hr2, hr3⟩ := (hr.below HG.out.below (Nat.le_refl _)).mono HG.out.below.size
    have HR1 := Lib.hid hr1; have HR2 := Lib.hid hr2; have HR3 := Lib.hid hr3; clear hr hr1 hr2 hr3
    have HC1 := Lib.hid (names_spec _ _ _ _ HR1.out (small_of z1))
    have HC2 := Lib.hid (names_spec _ _ _ _ HR2.out (small_of z2))
    have HC3 := Lib.hid (names_spec _ _ _ _ HR3.out (small_of z3))
    have HC4 := Lib.hid (fun X => val_spec non (by have := z4; simp only at this; omega) X)
    have HIP := Lib.hid (show isPol ⟨true, scr, sty, img, non⟩ = (okHosts scr && okHosts sty && okHosts img && (decide (non.size = 0) || isVal non)) from if_pos rfl)
    clear z1 z2 z3 z4
    cases h1 : okHosts scr with
    | false =>
      rw [h1] at HC1 HIP
      have HV := Lib.hid (show isPol ⟨true, scr, sty, img, non⟩ = false by rw [HIP.out]; simp); clear h1
      go_enter Tryd.func57, Tryd.ntmps57
      go_wp2_with fail
      refine HC1.out.mono ?_
      rintro e w1 ⟨rfl, rfl⟩
      go_wp2_with fail
      go_ret
      exact ⟨by rw [HV.out]; rfl, HG.out⟩
    | true =>
      rw [h1] at HC1 HIP; clear h1
      cases h2 : okHosts sty with
      | false =>
        rw [h2] at HC2 HIP
        have HV := Lib.hid (show isPol ⟨true, scr, sty, img, non⟩ = false by rw [HIP.out]; simp); clear h2
        go_enter Tryd.func57, Tryd.ntmps57
        go_wp2_with fail
        refine HC1.out.mono ?_
        rintro e w1 ⟨rfl, rfl⟩
        go_wp2_with fail
        refine HC2.out.mono ?_
        rintro e w2 ⟨rfl, rfl⟩
        go_wp2_with fail
        go_ret
        exact ⟨by rw [HV.out]; rfl, HG.out⟩
      | true =>
        rw [h2] at HC2 HIP; clear h2
        cases h3 : okHosts img with
        | false =>
          rw [h3] at HC3 HIP
          have HV := Lib.hid (show isPol ⟨true, scr, sty, img, non⟩ = false by rw [HIP.out]; simp); clear h3
          go_enter Tryd.func57, Tryd.ntmps57
          go_wp2_with fail
          refine HC1.out.mono ?_
          rintro e w1 ⟨rfl, rfl⟩
          go_wp2_with fail
          refine HC2.out.mono ?_
          rintro e w2 ⟨rfl, rfl⟩
          go_wp2_with fail
          refine HC3.out.mono ?_
          rintro e w3 ⟨rfl, rfl⟩
          go_wp2_with fail
          go_ret
          exact ⟨by rw [HV.out]; rfl, HG.out⟩
        | true =>
          rw [h3] at HC3 HIP; clear h3
          by_cases m4 : non.size = 0
          · have b4 : (non.toList == []) = true := by rw [empP_size, decide_eq_true m4]
            have HV := Lib.hid (show isPol ⟨true, scr, sty, img, non⟩ = true by rw [HIP.out, decide_eq_true m4]; rfl); clear m4
            go_enter Tryd.func57, Tryd.ntmps57
            go_wp2_with fail
            refine HC1.out.mono ?_
            rintro e w1 ⟨rfl, rfl⟩
            go_wp2_with fail
            refine HC2.out.mono ?_
            rintro e w2 ⟨rfl, rfl⟩
            go_wp2_with fail
            refine HC3.out.mono ?_
            rintro e w3 ⟨rfl, rfl⟩
            go_wp2_with fail
            go_ret
            exact ⟨by rw [HV.out]; rfl, HG.out⟩
          · have b4 : (non.toList == []) = false := by rw [empP_size, decide_eq_false m4]
            have HV := Lib.hid (show isPol ⟨true, scr, sty, img, non⟩ = isVal non by rw [HIP.out, decide_eq_false m4]; rfl); clear m4
            go_enter Tryd.func57, Tryd.ntmps57
            go_wp2_with fail
            refine HC1.out.mono ?_
            rintro e w1 ⟨rfl, rfl⟩
            go_wp2_with fail
            refine HC2.out.mono ?_
            rintro e w2 ⟨rfl, rfl⟩
            go_wp2_with fail
            refine HC3.out.mono ?_
            rintro e w3 ⟨rfl, rfl⟩
            go_wp2_with fail
            refine (HC4.out _).mono ?_
            rintro e w4 ⟨rfl, rfl⟩
            go_wp2_with fail
            go_ret
            exact ⟨by rw [HV.out]; rfl, HG.out⟩

set_option maxRecDepth 100000 in
set_option maxHeartbeats 4000000 in
theorem isPol_impl (set : Bool) (scr sty img : List ByteArray) (non : ByteArray) (a1 : Option Addr) (n1 c1 : Nat) (a2 : Option Addr) (n2 c2 : Nat) (a3 : Option Addr) (n3 c3 : Nat) (hz : PolSm ⟨set, scr, sty, img, non⟩) (w : World) (hr : ReadP w.heap.size w (.slice a1 n1 c1) (.slice a2 n2 c2) (.slice a3 n3 c3) ⟨set, scr, sty, img, non⟩) :
    Calls Tryd.prog 66 #[.agg #[.bool set, .slice a1 n1 c1, .slice a2 n2 c2, .slice a3 n3 c3, .string non]] w fun e w' => e = .returned (.bool (isPol ⟨set, scr, sty, img, non⟩)) ∧ Grw w w' := by
  obtain ⟨z1, z2, z3, z4⟩ := hz
  cases set with
  | false =>
    obtain ⟨W, hW⟩ : ∃ W, w.alloc (.cells #[.bool false, .slice a1 n1 c1, .slice a2 n2 c2, .slice a3 n3 c3, .string non] 75) = W := ⟨_, rfl⟩
    have HG := Lib.hid (show Grw w W by rw [← hW]; exact (Grw.refl w).alloc _)
    have q0 : W.cell? ⟨w.heap.size, 0, none⟩ = some (.bool false) := by rw [← hW]; simp
    have q1 : W.cell? ⟨w.heap.size, 1, none⟩ = some (.slice a1 n1 c1) := by rw [← hW]; simp
    have q2 : W.cell? ⟨w.heap.size, 2, none⟩ = some (.slice a2 n2 c2) := by rw [← hW]; simp
    have q3 : W.cell? ⟨w.heap.size, 3, none⟩ = some (.slice a3 n3 c3) := by rw [← hW]; simp
    have q4 : W.cell? ⟨w.heap.size, 4, none⟩ = some (.string non) := by rw [← hW]; simp
    obtain ⟨hr1, hr2, hr3⟩ := (hr.below HG.out.below (Nat.le_refl _)).mono HG.out.below.size
    have HR1 := Lib.hid hr1; have HR2 := Lib.hid hr2; have HR3 := Lib.hid hr3; clear hr hr1 hr2 hr3
    have HE := Lib.hid (show Calls Tryd.prog 70 #[.agg #[.bool false, .slice a1 n1 c1, .slice a2 n2 c2, .slice a3 n3 c3, .string non], .agg #[.bool false, .slice none 0 0, .slice none 0 0, .slice none 0 0, .string ⟨#[]⟩]] W fun e w' => e = .returned (.bool (isPol ⟨false, scr, sty, img, non⟩)) ∧ Grw W w' from by rw [← isPol_eqZ]; exact eqPol_impl false scr sty img non _ _ _ _ _ _ _ _ _ false [] [] [] ⟨#[]⟩ none 0 0 none 0 0 none 0 0 W ⟨HR1.out, HR2.out, HR3.out⟩ ⟨nilReads _ _, nilReads _ _, nilReads _ _⟩)
    clear z1 z2 z3 z4
    go_enter Tryd.func66, Tryd.ntmps66
    go_wp2_with fail
    refine HE.out.mono ?_
    rintro e w1 ⟨rfl, hg⟩
    have HG1 := Lib.hid (HG.out.trans hg); clear hg
    go_wp2_with fail
    go_ret
    exact ⟨rfl, HG1.out⟩
  | true =>
    obtain ⟨W, hW⟩ : ∃ W, w.alloc (.cells #[.bool true, .slice a1 n1 c1, .slice a2 n2 c2, .slice a3 n3 c3, .string non] 75) = W := ⟨_, rfl⟩
    have HG := Lib.hid (show Grw w W by rw [← hW]; exact (Grw.refl w).alloc _)
    have q0 : W.cell? ⟨w.heap.size, 0, none⟩ = some (.bool true) := by rw [← hW]; simp
    have q1 : W.cell? ⟨w.heap.size, 1, none⟩ = some (.slice a1 n1 c1) := by rw [← hW]; simp
    have q2 : W.cell? ⟨w.heap.size, 2, none⟩ = some (.slice a2 n2 c2) := by rw [← hW]; simp
    have q3 : W.cell? ⟨w.heap.size, 3, none⟩ = some (.slice a3 n3 c3) := by rw [← hW]; simp
    have q4 : W.cell? ⟨w.heap.size, 4, none⟩ = some (.string non) := by rw [← hW]; simp
    obtain ⟨hr1, hr2, hr3⟩ := (hr.below HG.out.below (Nat.le_refl _)).mono HG.out.below.size
    have HR1 := Lib.hid hr1; have HR2 := Lib.hid hr2; have HR3 := Lib.hid hr3; clear hr hr1 hr2 hr3
    have HC1 := Lib.hid (names_impl _ _ _ _ HR1.out (small_of z1))
    have HC2 := Lib.hid (names_impl _ _ _ _ HR2.out (small_of z2))
    have HC3 := Lib.hid (names_impl _ _ _ _ HR3.out (small_of z3))
    have HC4 := Lib.hid (fun X => val_impl non (by have := z4; simp only at this; omega) X)
    have HIP := Lib.hid (show isPol ⟨true, scr, sty, img, non⟩ = (okHosts scr && okHosts sty && okHosts img && (decide (non.size = 0) || isVal non)) from if_pos rfl)
    clear z1 z2 z3 z4
    cases h1 : okHosts scr with
    | false =>
      rw [h1] at HC1 HIP
      have HV := Lib.hid (show isPol ⟨true, scr, sty, img, non⟩ = false by rw [HIP.out]; simp); clear h1
      go_enter Tryd.func66, Tryd.ntmps66
      go_wp2_with fail
      refine HC1.out.mono ?_
      rintro e w1 ⟨rfl, rfl⟩
      go_wp2_with fail
      go_ret
      exact ⟨by rw [HV.out]; rfl, HG.out⟩
    | true =>
      rw [h1] at HC1 HIP; clear h1
      cases h2 : okHosts sty with
      | false =>
        rw [h2] at HC2 HIP
        have HV := Lib.hid (show isPol ⟨true, scr, sty, img, non⟩ = false by rw [HIP.out]; simp); clear h2
        go_enter Tryd.func66, Tryd.ntmps66
        go_wp2_with fail
        refine HC1.out.mono ?_
        rintro e w1 ⟨rfl, rfl⟩
        go_wp2_with fail
        refine HC2.out.mono ?_
        rintro e w2 ⟨rfl, rfl⟩
        go_wp2_with fail
        go_ret
        exact ⟨by rw [HV.out]; rfl, HG.out⟩
      | true =>
        rw [h2] at HC2 HIP; clear h2
        cases h3 : okHosts img with
        | false =>
          rw [h3] at HC3 HIP
          have HV := Lib.hid (show isPol ⟨true, scr, sty, img, non⟩ = false by rw [HIP.out]; simp); clear h3
          go_enter Tryd.func66, Tryd.ntmps66
          go_wp2_with fail
          refine HC1.out.mono ?_
          rintro e w1 ⟨rfl, rfl⟩
          go_wp2_with fail
          refine HC2.out.mono ?_
          rintro e w2 ⟨rfl, rfl⟩
          go_wp2_with fail
          refine HC3.out.mono ?_
          rintro e w3 ⟨rfl, rfl⟩
          go_wp2_with fail
          go_ret
          exact ⟨by rw [HV.out]; rfl, HG.out⟩
        | true =>
          rw [h3] at HC3 HIP; clear h3
          by_cases m4 : non.size = 0
          · have b4 : (non.toList == []) = true := by rw [empP_size, decide_eq_true m4]
            have HV := Lib.hid (show isPol ⟨true, scr, sty, img, non⟩ = true by rw [HIP.out, decide_eq_true m4]; rfl); clear m4
            go_enter Tryd.func66, Tryd.ntmps66
            go_wp2_with fail
            refine HC1.out.mono ?_
            rintro e w1 ⟨rfl, rfl⟩
            go_wp2_with fail
            refine HC2.out.mono ?_
            rintro e w2 ⟨rfl, rfl⟩
            go_wp2_with fail
            refine HC3.out.mono ?_
            rintro e w3 ⟨rfl, rfl⟩
            go_wp2_with fail
            go_ret
            exact ⟨by rw [HV.out]; rfl, HG.out⟩
          · have b4 : (non.toList == []) = false := by rw [empP_size, decide_eq_false m4]
            have HV := Lib.hid (show isPol ⟨true, scr, sty, img, non⟩ = isVal non by rw [HIP.out, decide_eq_false m4]; rfl); clear m4
            go_enter Tryd.func66, Tryd.ntmps66
            go_wp2_with fail
            refine HC1.out.mono ?_
            rintro e w1 ⟨rfl, rfl⟩
            go_wp2_with fail
            refine HC2.out.mono ?_
            rintro e w2 ⟨rfl, rfl⟩
            go_wp2_with fail
            refine HC3.out.mono ?_
            rintro e w3 ⟨rfl, rfl⟩
            go_wp2_with fail
            refine (HC4.out _).mono ?_
            rintro e w4 ⟨rfl, rfl⟩
            go_wp2_with fail
            go_ret
            exact ⟨by rw [HV.out]; rfl, HG.out⟩

end Go.Proofs.YtpkicliimhflgaaDoor
namespace Go.Proofs.YtpkicliimhflgaaDoor
open Go.ChangeShapes Go.WideShapes Go.ChangeAt Go.RowKit

theorem bl_tr {w X w' : World} (h : Below w.heap.size w X) (k : Below X.heap.size X w') : Below w.heap.size w w' := h.trans (k.mono h.size)
theorem bl_via {B : Nat} {w0 w X : World} (h : Below B w0 w) (hB : B ≤ w.heap.size) (k : Below w.heap.size w X) : Below B w0 X := h.trans (k.mono hB)
theorem bl_dw {B : Nat} {w w' : World} (h : Below B w w') : Below B w w'.drew := h.drew
theorem bl_aw {w w' : World} (h : Below w.heap.size w w') (o : Obj) : Below w.heap.size w (w'.alloc o) := h.alloc h.size o
theorem hq_dr {w : World} {g : Nat} {o : Obj} (h : w.heap[g]? = some o) : w.drew.heap[g]? = some o := h
theorem hq_nw {w : World} {g : Nat} {o : Obj} (h : w.heap.size = g) : (w.alloc o).heap[g]? = some o := by subst h; exact (MapKept.heap_alloc w o).1
theorem box_ca {w : World} {o o' : Obj} {g : Nat} (h : w.heap[g]? = some o) : (w.alloc o').heap[g]? = some o := by
  rw [Below.heap_alloc _ _ _ (heap_lt h)]; exact h
theorem box3_0 (w : World) (o1 o2 o3 : Obj) : (((w.alloc o1).alloc o2).alloc o3).heap[w.heap.size]? = some o1 := box_ca (box_ca (heap_alloc_new _ _))
theorem box3_1 (w : World) (o1 o2 o3 : Obj) : (((w.alloc o1).alloc o2).alloc o3).heap[w.heap.size + 1]? = some o2 := box_ca (by rw [← World.size_alloc]; exact heap_alloc_new _ _)
theorem box3_2 (w : World) (o1 o2 o3 : Obj) : (((w.alloc o1).alloc o2).alloc o3).heap[w.heap.size + 1 + 1]? = some o3 := by
  have h := heap_alloc_new ((w.alloc o1).alloc o2) o3
  rw [World.size_alloc, World.size_alloc] at h; exact h
/-- One cell of a box is stored. -/
theorem box_set {w : World} {b o : Nat} {cs : Array Value} {T : TypeId} (h : w.heap[b]? = some (.cells cs T (0, 0))) (u : Value) : (w.setCell ⟨b, o, none⟩ u).heap[b]? = some (.cells (cs.setIfInBounds o u) T (0, 0)) := by
  show (w.heap.modify b _)[b]? = _
  rw [Array.getElem?_modify, if_pos rfl, h]; rfl
theorem box_off {w : World} {b r o : Nat} {x : Obj} (h : w.heap[b]? = some x) (hne : b ≠ r) (u : Value) : (w.setCell ⟨r, o, none⟩ u).heap[b]? = some x := by
  rw [Below.heap_setCell _ _ _ _ hne]; exact h

end Go.Proofs.YtpkicliimhflgaaDoor
namespace Go.Proofs.YtpkicliimhflgaaDoor
open Go.ChangeShapes Go.WideShapes Go.ChangeAt Go.RowKit

theorem sumSt_take (xs : List ByteArray) (k : Nat) : sumSt (xs.take k) ≤ sumSt xs := by
  have : sumSt xs = sumSt (xs.take k) + sumSt (xs.drop k) := by
    conv => lhs; rw [← List.take_append_drop k xs]
    unfold sumSt; rw [List.map_append, List.sum_append]
  omega
theorem takeS {xs : List ByteArray} {k : Nat} {x : ByteArray} (h : xs[k]? = some x) : xs.take (k + 1) = xs.take k ++ [x] := by
  rw [List.take_add_one, h]; rfl
theorem spS_size : spS.size = 1 := rfl
theorem scS_size : scS.size = 1 := rfl

set_option maxRecDepth 100000 in
set_option maxHeartbeats 2000000 in
theorem words9_spec (v : Value) (hi : Nat) (xs : List ByteArray) (u : ByteArray) (w : World) (hr : ReadsK encS 1 hi w v xs) (hu : u.size ≤ 6) (hz : xs.length + sumSt xs ≤ 1048576) :
    Calls Tryd.prog 58 #[.string u, v] w fun e w' => e = .returned (.string (wordsS u xs)) ∧ w = w' := by
  obtain ⟨a, cap, rfl, hc1, hc2, _⟩ := id hr
  obtain ⟨tx, htx⟩ : ∃ f : Nat → ByteArray, f = fun m => wordsS u (xs.take m) := ⟨_, rfl⟩
  have HTX := Lib.hid htx
  have HTS := Lib.hid (fun m => show (tx m).size ≤ 1048582 by
    rw [htx]
    show (wordsS u (xs.take m)).size ≤ _
    rw [wordsS_size]
    have h2 := sumSt_take xs m
    have h3 := List.length_take_le' m xs
    omega)
  have HZ := Lib.hid hz
  obtain ⟨n, hn⟩ : ∃ n, xs.length = n := ⟨_, rfl⟩
  have h0 : tx 0 = u := by rw [htx]; rfl
  have H0 := Lib.hid h0
  rw [hn] at hr hc1 ⊢
  have HN := Lib.hid hn; have HR := Lib.hid hr; clear hn hr htx h0 hz
  go_enter Tryd.func58, Tryd.ntmps58
  go_wp2
  go_loop [0, 5] (fun c i => ∃ (k : Nat), k ≤ n ∧ i = .int .i64 k ∧ c = .string (tx k)) (fun _ i => n - (intOf i).toNat)
  case atStart => exact ⟨0, Nat.zero_le _, rfl, by rw [H0.out]⟩
  case round =>
    obtain ⟨k, hk, rfl, rfl⟩ := hrel
    by_cases hlt : (k : Int) < (n : Int)
    · obtain ⟨x, hx⟩ := ssAt (xs := xs) (j := k) (by have := HN.out; omega)
      obtain ⟨g, off, rfl, _, c0⟩ := str_cell HR.out hx
      have hxz : x.size ≤ 1048576 := by have h1 := sum_le_at (List.mem_of_getElem? hx); have h2 := HZ.out; unfold sumSt at h2; omega
      have hy := HTS.out k
      have hy1 := HTS.out (k + 1)
      have HX3 := Lib.hid (show tx (k + 1) = tx k ++ spS ++ x by rw [HTX.out]; show wordsS u (xs.take (k + 1)) = _; rw [takeS hx, wordsS_snoc])
      obtain ⟨X, hX⟩ : ∃ Y, tx k = Y := ⟨_, rfl⟩
      obtain ⟨X1, hX1⟩ : ∃ Y, X ++ spS = Y := ⟨_, rfl⟩
      obtain ⟨X2, hX2⟩ : ∃ Y, X1 ++ x = Y := ⟨_, rfl⟩
      rw [hX] at hy HX3 ⊢
      have hz1 : X1.size ≤ 1048583 := by rw [← hX1, ByteArray.size_append, spS_size]; omega
      have a1 : ∀ W, (Op.stringOp .add X ⟨#[32]⟩).run Tryd.prog W = .ok (.string X1) W := fun W => by rw [← hX1]; exact run_string_add_sum _ _ _ (by rw [show (⟨#[32]⟩ : ByteArray).size = 1 from rfl]; omega)
      have a2 : ∀ W, (Op.stringOp .add X1 x).run Tryd.prog W = .ok (.string X2) W := fun W => by rw [← hX2]; exact run_string_add_sum _ _ _ (by omega)
      have HXE := Lib.hid (show X2 = tx (k + 1) by rw [HX3.out, ← hX2, ← hX1])
      clear hX hX1 hX2 hx
      go_wp2
      go_round
      case rel => exact ⟨k + 1, by omega, by go_num, by rw [← HXE.out]⟩
      case measure => simp [intOf]; omega
    · have hlf : decide ((k : Int) < (n : Int)) = false := decide_eq_false hlt
      have HV := Lib.hid (show tx k = wordsS u xs by rw [HTX.out]; show wordsS u (xs.take k) = _; rw [List.take_of_length_le (by have := HN.out; omega)])
      go_wp2
      go_ret
      exact ⟨by rw [← HV.out]; rfl, rfl⟩

theorem mineS_lit {w0 w : World} {B : Nat} (x : ByteArray) (hb : Below B w0 w) (hB : B ≤ w.heap.size) : MineK encS 1 9 B w0 (w.alloc (.cells #[.string x] 9)) (.slice (some ⟨w.heap.size, 0, none⟩) 1 1) [x] :=
  ⟨World.ownsRow_lit (base := B) (e := 9) (size := 1) w #[.string x] 1 hB (by decide) rfl, hb.alloc hB _, by simp; omega⟩
theorem own_strs9 {lo hi g n c : Nat} {w : World} {xs : List ByteArray} (h : OwnK encS 1 9 lo hi w (.slice (some ⟨g, 0, none⟩) n c) xs) (hn : xs.length = n) : g < w.heap.size ∧ n ≤ c ∧ ∀ (j : Nat) x, xs[j]? = some x → w.cell? ⟨g, 0 + j, none⟩ = some (.string x) := by
  have hr := h.reads encS_len
  rcases h.1.2 with ⟨e, _⟩ | ⟨g', cap, cur, e, hg, hh, hc, hm, _⟩
  · cases e
  · cases e
    refine ⟨heap_lt hh, by omega, fun j x hj => ?_⟩
    have := hr.news encS_len j (.string x) (by
      have := flat_at encS_len hj (show 0 < 1 by decide)
      simpa [encS] using this)
    rwa [add_off] at this
theorem mineS_some9 {B : Nat} {w0 w : World} {v : Value} {xs : List ByteArray} (h : MineK encS 1 9 B w0 w v xs) (h1 : 1 ≤ xs.length) : ∃ g c, v = .slice (some ⟨g, 0, none⟩) xs.length c := by
  rcases h.row.2 with ⟨e, h0⟩ | ⟨g, cap, cur, e, _⟩
  · omega
  · exact ⟨g, cap, e⟩
theorem join_words (u : ByteArray) (xs : List ByteArray) : Lib.join ((u :: xs).map (·.data.toList)) [32] = (wordsS u xs).data.toList := by
  rw [wordsS_list, List.map_cons, Lib.join_cons]
  congr 1
  unfold Lib.joinTail hostsL
  rw [List.map_map, List.flatMap_def]
  rfl

set_option maxRecDepth 100000 in
set_option maxHeartbeats 2000000 in
theorem formatHosts_impl (v : Value) (hi : Nat) (xs : List ByteArray) (u : ByteArray) (w : World) (hr : ReadsK encS 1 hi w v xs) (hh : hi ≤ w.heap.size) (hu : u.size ≤ 6) (hz : xs.length + sumSt xs ≤ 1048576) :
    Calls Tryd.prog 67 #[.string u, v] w fun e w' => e = .returned (.string (wordsS u xs)) ∧ Below w.heap.size w w' := by
  have HR := Lib.hid (hr.below ((Below.refl w.heap.size w).alloc (Nat.le_refl _) (.cells #[.string u] 9)) hh)
  have HM := Lib.hid (mineS_lit u (Below.refl w.heap.size w) (Nat.le_refl _))
  have HZ := Lib.hid hz
  clear hr hz
  go_enter Tryd.func67, Tryd.ntmps67
  go_wp2_with (at_builtin; refine wpList_appS rfl _ _ rfl w.heap.size w _ [u] rfl HM.out _ _ xs rfl HR.out ?c3 ?_)
  case c3 => have := HZ.out; simp; omega
  intro v' w1 hM'
  obtain ⟨g, c, rfl⟩ := mineS_some9 hM' (by simp)
  obtain ⟨hbw, hcp, hcl⟩ := own_strs9 hM'.own rfl
  have hJ := Tryd.strings_Join g 0 c ([u] ++ xs) ⟨#[32]⟩ w1 hcl hbw (by have := HZ.out; simp; omega) hcp (by
    rw [show [u] ++ xs = u :: xs from rfl, show (⟨#[32]⟩ : ByteArray).data.toList = [32] from rfl, join_words, size_list, wordsS_size]; have := HZ.out; omega)
  rw [show ([u] ++ xs).map (·.data.toList) = (u :: xs).map (·.data.toList) from rfl, show (⟨#[32]⟩ : ByteArray).data.toList = [32] from rfl, join_words] at hJ
  have HJ := Lib.hid hJ
  have HM2 := Lib.hid hM'
  clear hJ hcl hM' hbw hcp
  go_wp2_with fail
  refine HJ.out.mono ?_
  rintro e w2 ⟨rfl, hb2⟩
  have HB2 := Lib.hid (HM2.out.below.trans (hb2.mono HM2.out.size))
  clear hb2
  go_wp2_with fail
  go_ret
  exact ⟨by rfl, HB2.out⟩

end Go.Proofs.YtpkicliimhflgaaDoor
namespace Go.Proofs.YtpkicliimhflgaaDoor
open Go.ChangeShapes Go.WideShapes Go.ChangeAt Go.RowKit

theorem bothS_snoc (ys : List ByteArray) {xs : List ByteArray} {k : Nat} {x : ByteArray} (h : xs[k]? = some x) : bothS (xs.take (k + 1)) ys = bothS (xs.take k) ys ++ (if hasS ys x = true then [x] else []) := by
  unfold bothS
  rw [takeS h, List.filter_append]
  congr 1
  by_cases e : hasS ys x = true
  · rw [if_pos e, List.filter_cons, if_pos e]; rfl
  · rw [if_neg e, List.filter_cons, if_neg e]; rfl
theorem bothS_len (xs ys : List ByteArray) : (bothS xs ys).length ≤ xs.length := List.length_filter_le _ _
theorem sumSt_filter (p : ByteArray → Bool) : ∀ xs : List ByteArray, sumSt (xs.filter p) ≤ sumSt xs
  | [] => Nat.le_refl _
  | x :: xs => by
    have ih := sumSt_filter p xs
    rw [List.filter_cons]
    split
    · unfold sumSt at ih ⊢; rw [List.map_cons, List.map_cons, List.sum_cons, List.sum_cons]; omega
    · unfold sumSt at ih ⊢; rw [List.map_cons, List.sum_cons]; omega

end Go.Proofs.YtpkicliimhflgaaDoor
namespace Go.Proofs.YtpkicliimhflgaaDoor
open Go.ChangeShapes Go.WideShapes Go.ChangeAt Go.RowKit

theorem ownL_three {lo hi : Nat} {w : World} {a b c : Rw} : OwnRL lo hi w [a, b, c] ↔ a.OwnR lo hi w ∧ b.OwnR lo hi w ∧ c.OwnR lo hi w := by rw [ownRL_iff]; simp
/-- Three slices of strings in data form, their values in letters. -/
structure PoF (y1 y2 y3 : Rw) (u1 u2 u3 : Value) (xs ys zs : List ByteArray) : Prop where
  i1 : IsStringS y1
  i2 : IsStringS y2
  i3 : IsStringS y3
  d1 : y1.data = (rwSs (.slice none 0 0) xs).data
  d2 : y2.data = (rwSs (.slice none 0 0) ys).data
  d3 : y3.data = (rwSs (.slice none 0 0) zs).data
  e1 : y1.cell = u1
  e2 : y2.cell = u2
  e3 : y3.cell = u3
theorem PoF.reads {y1 y2 y3 : Rw} {u1 u2 u3 : Value} {xs ys zs : List ByteArray} (h : PoF y1 y2 y3 u1 u2 u3 xs ys zs) {lo hi : Nat} {w : World} (ho : OwnRL lo hi w [y1, y2, y3]) (b : Bool) (t : ByteArray) : ReadP w.heap.size w u1 u2 u3 ⟨b, xs, ys, zs, t⟩ := by
  obtain ⟨o1, o2, o3⟩ := ownL_three.1 ho
  have r1 := strs_of_data h.d1 (rd_of o1)
  have r2 := strs_of_data h.d2 (rd_of o2)
  have r3 := strs_of_data h.d3 (rd_of o3)
  rw [h.e1] at r1; rw [h.e2] at r2; rw [h.e3] at r3
  exact ⟨r1, r2, r3⟩
theorem poF_of {v1 v2 v3 : Value} {xs ys zs : List ByteArray} : PoF (rwSs v1 xs) (rwSs v2 ys) (rwSs v3 zs) v1 v2 v3 xs ys zs :=
  ⟨rwSs_is _ _, rwSs_is _ _, rwSs_is _ _, rwSs_data _ _ _, rwSs_data _ _ _, rwSs_data _ _ _, rfl, rfl, rfl⟩

theorem ReadP.up {w w' : World} {v1 v2 v3 : Value} {p : Pol} (h : ReadP w.heap.size w v1 v2 v3 p) (hb : Below w.heap.size w w') : ReadP w'.heap.size w' v1 v2 v3 p := (h.below hb (Nat.le_refl _)).mono hb.size

end Go.Proofs.YtpkicliimhflgaaDoor
namespace Go.Proofs.YtpkicliimhflgaaDoor
open Go.ChangeShapes Go.WideShapes Go.ChangeAt Go.RowKit

theorem heap_bl9 {X w' : World} {g : Nat} {o : Obj} (k : Below X.heap.size X w') (h : X.heap[g]? = some o) : w'.heap[g]? = some o := below_heap k (heap_lt h) h
theorem bl_s9 {B c o : Nat} {w w' : World} (h : Below B w w') (hb : B ≤ c) (u : Value) : Below B w (w'.setCell ⟨c, o, none⟩ u) := h.setCell hb u
theorem bl_sz {w X w' : World} (h : Below w.heap.size w X) (_ : Below X.heap.size X w') : w.heap.size ≤ X.heap.size := h.size
theorem ownK_only {α : Type} {enc : α → List Value} {k : Nat} {e : TypeId} {lo hi : Nat} {w w' : World} {v : Value} {xs : List α} {bs : List Nat} (h : OwnK enc k e lo hi w v xs) (hb : OnlyB bs w w') (hn : ∀ b, v.ownBlock = some b → b ∉ bs) : OwnK enc k e lo hi w' v xs := ⟨ownsRow_only h.1 hb hn, h.2⟩
/-- A struct of five cells stored into its box. -/
abbrev set5 (W : World) (p : Nat) (u0 u1 u2 u3 u4 : Value) : World := ((((W.setCell ⟨p, 0, none⟩ u0).setCell ⟨p, 1, none⟩ u1).setCell ⟨p, 2, none⟩ u2).setCell ⟨p, 3, none⟩ u3).setCell ⟨p, 4, none⟩ u4
theorem set5_only (W : World) (p : Nat) (u0 u1 u2 u3 u4 : Value) : OnlyB [p] W (set5 W p u0 u1 u2 u3 u4) := (((((OnlyB.refl [p] W).set (by simp)).set (by simp)).set (by simp)).set (by simp)).set (by simp)
theorem set5_box {W : World} {p : Nat} {T : TypeId} {z0 z1 z2 z3 z4 : Value} (h : W.heap[p]? = some (.cells #[z0, z1, z2, z3, z4] T (0, 0))) (u0 u1 u2 u3 u4 : Value) : (set5 W p u0 u1 u2 u3 u4).heap[p]? = some (.cells #[u0, u1, u2, u3, u4] T (0, 0)) :=
  heap_one (o := 4) (heap_one (o := 3) (heap_one (o := 2) (heap_one (o := 1) (heap_one (o := 0) h u0) u1) u2) u3) u4
/-- Three slices of strings of the call's own, apart from each other. -/
def Own3 (lo : Nat) (w : World) (v1 v2 v3 : Value) (xs ys zs : List ByteArray) : Prop := OwnRL lo w.heap.size w [rwSs v1 xs, rwSs v2 ys, rwSs v3 zs] ∧ (blocksL [rwSs v1 xs, rwSs v2 ys, rwSs v3 zs]).Nodup
theorem own3_of {B l1 h1 l2 h2 l3 h3 : Nat} {w : World} {v1 v2 v3 : Value} {xs ys zs : List ByteArray} (o1 : OwnK encS 1 9 l1 h1 w v1 xs) (o2 : OwnK encS 1 9 l2 h2 w v2 ys) (o3 : OwnK encS 1 9 l3 h3 w v3 zs)
    (b1 : B ≤ l1) (b2 : B ≤ l2) (b3 : B ≤ l3) (d12 : h1 ≤ l2 ∨ h2 ≤ l1) (d13 : h1 ≤ l3 ∨ h3 ≤ l1) (d23 : h2 ≤ l3 ∨ h3 ≤ l2) : Own3 B w v1 v2 v3 xs ys zs := by
  have e1 : ∀ g, v1.ownBlock = some g → l1 ≤ g ∧ g < h1 := fun g hg => ⟨(o1.lt g hg).1, o1.2 g hg⟩
  have e2 : ∀ g, v2.ownBlock = some g → l2 ≤ g ∧ g < h2 := fun g hg => ⟨(o2.lt g hg).1, o2.2 g hg⟩
  have e3 : ∀ g, v3.ownBlock = some g → l3 ≤ g ∧ g < h3 := fun g hg => ⟨(o3.lt g hg).1, o3.2 g hg⟩
  refine ⟨ownL_three.2 ⟨Rw.OwnR.top (Rw.OwnR.mono b1 (Nat.le_refl _) _ (rwSs_own o1)), Rw.OwnR.top (Rw.OwnR.mono b2 (Nat.le_refl _) _ (rwSs_own o2)), Rw.OwnR.top (Rw.OwnR.mono b3 (Nat.le_refl _) _ (rwSs_own o3))⟩, ?_⟩
  simp only [blocksL, List.append_nil, rwSs_blocks]
  have n : ∀ o : Option Nat, o.toList.Nodup := fun o => by cases o <;> simp
  refine List.nodup_append.2 ⟨n _, List.nodup_append.2 ⟨n _, n _, fun a ha b hb e => ?_⟩, fun a ha b hb e => ?_⟩
  · subst e
    have k2 := e2 a (by simpa using ha); have k3 := e3 a (by simpa using hb)
    omega
  · subst e
    have k1 := e1 a (by simpa using ha)
    rcases List.mem_append.1 hb with hb | hb
    · have k2 := e2 a (by simpa using hb); omega
    · have k3 := e3 a (by simpa using hb); omega
/-- A policy of the call's own. -/
def PoNew (p : Pol) (w : World) (e : Ending) (w' : World) : Prop :=
  ∃ (a1 : Option Addr) (n1 c1 : Nat) (a2 : Option Addr) (n2 c2 : Nat) (a3 : Option Addr) (n3 c3 : Nat), e = .returned (.agg #[.bool p.set, .slice a1 n1 c1, .slice a2 n2 c2, .slice a3 n3 c3, .string p.non]) ∧ Own3 w.heap.size w' (.slice a1 n1 c1) (.slice a2 n2 c2) (.slice a3 n3 c3) p.scr p.sty p.img ∧ Below w.heap.size w w'
theorem fin5 {w Wc W1 W2 W3 : World} {p B l1 h1 l2 h2 l3 h3 : Nat} {T : TypeId} {z0 z1 z2 z3 z4 u0 u4 v1 v2 v3 : Value} {xs ys zs : List ByteArray} (hp : Wc.heap[p]? = some (.cells #[z0, z1, z2, z3, z4] T (0, 0))) (hpB : B ≤ p) (hb : Below B w Wc) (hB : B ≤ w.heap.size)
    (o1 : OwnK encS 1 9 l1 h1 W1 v1 xs) (k1 : Below W1.heap.size W1 Wc) (o2 : OwnK encS 1 9 l2 h2 W2 v2 ys) (k2 : Below W2.heap.size W2 Wc) (o3 : OwnK encS 1 9 l3 h3 W3 v3 zs) (k3 : Below W3.heap.size W3 Wc)
    (p1 : p < l1) (p2 : p < l2) (p3 : p < l3) (d12 : h1 ≤ l2 ∨ h2 ≤ l1) (d13 : h1 ≤ l3 ∨ h3 ≤ l1) (d23 : h2 ≤ l3 ∨ h3 ≤ l2) :
    (set5 Wc p u0 v1 v2 v3 u4).heap[p]? = some (.cells #[u0, v1, v2, v3, u4] T (0, 0)) ∧ Own3 (p + 1) (set5 Wc p u0 v1 v2 v3 u4) v1 v2 v3 xs ys zs ∧ Below B w (set5 Wc p u0 v1 v2 v3 u4) := by
  have ho := set5_only Wc p u0 v1 v2 v3 u4
  have f : ∀ {lo hi : Nat} {W : World} {v : Value} {us : List ByteArray}, OwnK encS 1 9 lo hi W v us → Below W.heap.size W Wc → p < lo → OwnK encS 1 9 lo hi (set5 Wc p u0 v1 v2 v3 u4) v us := fun o k hlt => ownK_only (o.later k) ho fun b hv hm => by
    rw [List.mem_singleton] at hm
    have := (o.lt b hv).1; omega
  refine ⟨set5_box hp _ _ _ _ _, own3_of (f o1 k1 p1) (f o2 k2 p2) (f o3 k3 p3) p1 p2 p3 d12 d13 d23, hb.trans (ho.below (fun i hi => by rw [List.mem_singleton] at hi; omega) ?_)⟩
  exact Nat.le_trans hB hb.size
theorem own_form {lo hi : Nat} {w : World} {v : Value} {xs : List ByteArray} (h : OwnK encS 1 9 lo hi w v xs) : ∃ a n c, v = .slice a n c := by
  obtain ⟨a, c, e, _⟩ := h.reads encS_len
  exact ⟨a, _, c, e⟩
def NewF (xs : List ByteArray) (X : World) (e : Ending) (w' : World) : Prop := ∃ (a : Option Addr) (n c : Nat), e = .returned (.slice a n c) ∧ OwnK encS 1 9 X.heap.size w'.heap.size w' (.slice a n c) xs ∧ Below X.heap.size X w'
theorem newF_of {xs : List ByteArray} {X : World} {e : Ending} {w' : World} (h : NewK encS 1 9 xs X e w') : NewF xs X e w' := by
  obtain ⟨v, rfl, ho, hb⟩ := h
  obtain ⟨a, n, c, rfl⟩ := own_form ho
  exact ⟨a, n, c, rfl, ho, hb⟩

end Go.Proofs.YtpkicliimhflgaaDoor
namespace Go.Proofs.YtpkicliimhflgaaDoor
open Go.ChangeShapes Go.WideShapes Go.ChangeAt Go.RowKit

theorem join_len (c : UInt8) : ∀ (p : List UInt8) (ps : List (List UInt8)), (joinB c (p :: ps)).length = p.length + (ps.map List.length).sum + ps.length
  | p, [] => by show p.length = _; simp
  | p, q :: ps => by
    have ih := join_len c q ps
    show (p ++ c :: joinB c (q :: ps)).length = _
    rw [List.length_append, List.length_cons, ih, List.map_cons, List.sum_cons, List.length_cons]; omega
theorem sum_ofL (ps : List (List UInt8)) : sumSt (ps.map ofL) = (ps.map List.length).sum := by
  unfold sumSt
  rw [List.map_map]
  exact congrArg List.sum (List.map_congr_left fun p _ => ofL_size p)
theorem sp_small {c : UInt8} {l : List UInt8} : (splS c l).tail.length + sumSt (splS c l).tail ≤ l.length := by
  have hj := joinB_split c l
  cases hs : splitB c l with
  | nil => exact absurd hs (splitB_ne _ _)
  | cons p ps =>
    rw [hs] at hj
    have h := join_len c p ps
    rw [hj] at h
    have e : (splS c l).tail = ps.map ofL := by unfold splS; rw [hs]; rfl
    rw [e, sum_ofL, List.length_map]; omega
theorem sp_piece {c : UInt8} {l : List UInt8} {p : ByteArray} (h : p ∈ splS c l) : p.size ≤ l.length := by
  unfold splS at h
  obtain ⟨q, hq, rfl⟩ := List.mem_map.1 h
  rw [ofL_size]; exact splitB_piece hq
theorem cut_len (l m : List UInt8) : (Lib.cut l m).1.length ≤ l.length ∧ (Lib.cut l m).2.1.length ≤ l.length := by
  unfold Lib.cut
  split
  · exact ⟨by rw [List.length_take]; omega, by rw [List.length_drop]; omega⟩
  · exact ⟨Nat.le_refl _, Nat.zero_le _⟩
theorem hosts_small {s p : ByteArray} {c : UInt8} {l : List UInt8} (hl : l.length ≤ s.size) (hs : s.size ≤ 1048576) (h : p ∈ splS c l) : (splS 32 p.data.toList).tail.length + sumSt (splS 32 p.data.toList).tail ≤ 1048576 := by
  have h1 := sp_small (c := 32) (l := p.data.toList)
  have h2 := sp_piece h
  rw [size_list] at h1
  omega
theorem polZ_sm : PolSm polZ := ⟨by decide, by decide, by decide, by decide⟩
theorem rdI_sm {s : ByteArray} (hs : s.size ≤ 1048576) : PolSm (rdI s) := by
  have hc := cut_len s.data.toList kNon.data.toList
  rw [size_list] at hc
  unfold rdI
  split
  · rename_i a b c he
    refine ⟨hosts_small hc.1 hs (c := 59) (by rw [he]; simp), hosts_small hc.1 hs (c := 59) (by rw [he]; simp), hosts_small hc.1 hs (c := 59) (by rw [he]; simp), ?_⟩
    show (ofL _).size ≤ _
    rw [ofL_size]; omega
  · exact polZ_sm
theorem rdM_sm {s : ByteArray} {q : Pol} (hs : s.size ≤ 1048576) (h : rdM s = some q) : PolSm q := by
  have hl : s.data.toList.length ≤ s.size := by rw [size_list]; exact Nat.le_refl _
  unfold rdM at h
  split at h
  · rename_i a b c ds he
    injection h with h
    subst h
    refine ⟨hosts_small hl hs (c := 59) (by rw [he]; simp), hosts_small hl hs (c := 59) (by rw [he]; simp), hosts_small hl hs (c := 59) (by rw [he]; simp), ?_⟩
    cases ds with
    | nil => exact Nat.zero_le _
    | cons d ds =>
      have h1 := sp_piece (c := 59) (l := s.data.toList) (p := d) (by rw [he]; simp)
      show (if 6 < d.size then d.extract 6 d.size else ⟨#[]⟩).size ≤ _
      split
      · rw [ByteArray.size_extract]; omega
      · exact Nat.zero_le _
  · cases h
/-- The three lists of hosts of a policy that the call made, wherever they begin in their blocks. -/
def Own3O (lo : Nat) (w : World) (v1 v2 v3 : Value) (xs ys zs : List ByteArray) : Prop := OwnO lo w.heap.size w v1 xs ∧ OwnO lo w.heap.size w v2 ys ∧ OwnO lo w.heap.size w v3 zs ∧ (blkO v1 xs ++ (blkO v2 ys ++ blkO v3 zs)).Nodup
theorem Own3O.reads {lo : Nat} {w : World} {v1 v2 v3 : Value} {p : Pol} (h : Own3O lo w v1 v2 v3 p.scr p.sty p.img) : ReadP w.heap.size w v1 v2 v3 p := ⟨h.1.reads, h.2.1.reads, h.2.2.1.reads⟩
theorem Own3O.later {lo : Nat} {w w' : World} {v1 v2 v3 : Value} {xs ys zs : List ByteArray} (h : Own3O lo w v1 v2 v3 xs ys zs) (hb : Below w.heap.size w w') : Own3O lo w' v1 v2 v3 xs ys zs := ⟨(h.1.later hb).top, (h.2.1.later hb).top, (h.2.2.1.later hb).top, h.2.2.2⟩
theorem Own3O.low {lo lo' : Nat} {w : World} {v1 v2 v3 : Value} {xs ys zs : List ByteArray} (h : Own3O lo w v1 v2 v3 xs ys zs) (hl : lo' ≤ lo) : Own3O lo' w v1 v2 v3 xs ys zs := ⟨h.1.mono hl (Nat.le_refl _), h.2.1.mono hl (Nat.le_refl _), h.2.2.1.mono hl (Nat.le_refl _), h.2.2.2⟩
theorem Own3O.only {lo : Nat} {w w' : World} {bs : List Nat} {v1 v2 v3 : Value} {xs ys zs : List ByteArray} (h : Own3O lo w v1 v2 v3 xs ys zs) (hb : OnlyB bs w w') (hn : ∀ b ∈ bs, b < lo) : Own3O lo w' v1 v2 v3 xs ys zs := by
  have f : ∀ {v : Value} {us : List ByteArray}, OwnO lo w.heap.size w v us → OwnO lo w'.heap.size w' v us := fun o => (o.only hb fun b hv hm => by have := (o.blk b hv).1; have := hn b hm; omega).top
  exact ⟨f h.1, f h.2.1, f h.2.2.1, h.2.2.2⟩
theorem own3O_zero (lo : Nat) (w : World) : Own3O lo w (.slice none 0 0) (.slice none 0 0) (.slice none 0 0) [] [] [] := ⟨ownO_none _ _ _, ownO_none _ _ _, ownO_none _ _ _, by decide⟩
theorem own3O_of {B l1 h1 l2 h2 l3 h3 : Nat} {w : World} {v1 v2 v3 : Value} {xs ys zs : List ByteArray} (o1 : OwnO l1 h1 w v1 xs) (o2 : OwnO l2 h2 w v2 ys) (o3 : OwnO l3 h3 w v3 zs)
    (b1 : B ≤ l1) (b2 : B ≤ l2) (b3 : B ≤ l3) (d12 : h1 ≤ l2) (d13 : h1 ≤ l3) (d23 : h2 ≤ l3) : Own3O B w v1 v2 v3 xs ys zs := by
  have n : ∀ (v : Value) (us : List ByteArray), (blkO v us).Nodup := fun v us => by unfold blkO; split <;> (cases v.ownBlock <;> simp)
  refine ⟨(o1.mono b1 (Nat.le_refl _)).top, (o2.mono b2 (Nat.le_refl _)).top, (o3.mono b3 (Nat.le_refl _)).top, List.nodup_append.2 ⟨n _ _, List.nodup_append.2 ⟨n _ _, n _ _, fun a ha b hb e => ?_⟩, fun a ha b hb e => ?_⟩⟩
  · have k2 := (o2.blk a ha).2.1; have k3 := (o3.blk b hb).1; omega
  · have k1 := (o1.blk a ha).2.1
    rcases List.mem_append.1 hb with hb | hb
    · have k2 := (o2.blk b hb).1; omega
    · have k3 := (o3.blk b hb).1; omega
/-- A policy that the call made. -/
def RdNew (p : Pol) (w : World) (e : Ending) (w' : World) : Prop :=
  ∃ (a1 : Option Addr) (n1 c1 : Nat) (a2 : Option Addr) (n2 c2 : Nat) (a3 : Option Addr) (n3 c3 : Nat), e = .returned (.agg #[.bool p.set, .slice a1 n1 c1, .slice a2 n2 c2, .slice a3 n3 c3, .string p.non]) ∧ Own3O w.heap.size w' (.slice a1 n1 c1) (.slice a2 n2 c2) (.slice a3 n3 c3) p.scr p.sty p.img ∧ Below w.heap.size w w'
/-- A policy that the call made, and whether it is one. -/
def PrsNew (r : Pol × Bool) (w : World) (e : Ending) (w' : World) : Prop :=
  ∃ (a1 : Option Addr) (n1 c1 : Nat) (a2 : Option Addr) (n2 c2 : Nat) (a3 : Option Addr) (n3 c3 : Nat), e = .returned (.tuple #[.agg #[.bool r.1.set, .slice a1 n1 c1, .slice a2 n2 c2, .slice a3 n3 c3, .string r.1.non], .bool r.2]) ∧ Own3O w.heap.size w' (.slice a1 n1 c1) (.slice a2 n2 c2) (.slice a3 n3 c3) r.1.scr r.1.sty r.1.img ∧ Below w.heap.size w w'
theorem finO {w Wc W1 W2 W3 : World} {p B l1 h1 l2 h2 l3 h3 : Nat} {T : TypeId} {z0 z1 z2 z3 z4 u0 u4 v1 v2 v3 : Value} {xs ys zs : List ByteArray} (hp : Wc.heap[p]? = some (.cells #[z0, z1, z2, z3, z4] T (0, 0))) (hpB : B ≤ p) (hb : Below B w Wc) (hB : B ≤ w.heap.size)
    (o1 : OwnO l1 h1 W1 v1 xs) (k1 : Below W1.heap.size W1 Wc) (o2 : OwnO l2 h2 W2 v2 ys) (k2 : Below W2.heap.size W2 Wc) (o3 : OwnO l3 h3 W3 v3 zs) (k3 : Below W3.heap.size W3 Wc)
    (p1 : p < l1) (p2 : p < l2) (p3 : p < l3) (d12 : h1 ≤ l2) (d13 : h1 ≤ l3) (d23 : h2 ≤ l3) :
    (set5 Wc p u0 v1 v2 v3 u4).heap[p]? = some (.cells #[u0, v1, v2, v3, u4] T (0, 0)) ∧ Own3O (p + 1) (set5 Wc p u0 v1 v2 v3 u4) v1 v2 v3 xs ys zs ∧ Below B w (set5 Wc p u0 v1 v2 v3 u4) := by
  have ho := set5_only Wc p u0 v1 v2 v3 u4
  have f : ∀ {lo hi : Nat} {W : World} {v : Value} {us : List ByteArray}, OwnO lo hi W v us → Below W.heap.size W Wc → p < lo → OwnO lo hi (set5 Wc p u0 v1 v2 v3 u4) v us := fun o k hlt => (o.later k).only ho fun b hv hm => by
    rw [List.mem_singleton] at hm
    have := (o.blk b hv).1; omega
  exact ⟨set5_box hp _ _ _ _ _, own3O_of (f o1 k1 p1) (f o2 k2 p2) (f o3 k3 p3) p1 p2 p3 d12 d13 d23, hb.trans (ho.below (fun i hi => by rw [List.mem_singleton] at hi; omega) (Nat.le_trans hB hb.size))⟩
theorem ob_dw {bs : List Nat} {w w' : World} (h : OnlyB bs w w') : OnlyB bs w w'.drew := ⟨h.os, h.tape, h.output, h.size, h.block⟩
theorem ob_aw {bs : List Nat} {w w' : World} (h : OnlyB bs w w') (o : Obj) : OnlyB bs w (w'.alloc o) := h.trans (OnlyB.of_below ((Below.refl _ _).alloc (Nat.le_refl _) o) bs)
theorem ob_st {p o : Nat} {w w' : World} (h : OnlyB [p] w w') (v : Value) : OnlyB [p] w (w'.setCell ⟨p, o, none⟩ v) := h.set (by simp)
theorem below_dN (w : World) (n : Nat) : Below w.heap.size w (w.drewN n) := (Grw.refl w).drewN n |>.below
def rdL (L : List ByteArray) (n : ByteArray) : Pol := match L with
  | [a, b, c] => ⟨true, (splS 32 a.data.toList).tail, (splS 32 b.data.toList).tail, (splS 32 c.data.toList).tail, n⟩
  | _ => polZ
theorem rdI_eq {s : ByteArray} {F N : List UInt8} {B : Bool} {L : List ByteArray} (hc : Lib.cut s.data.toList kNon.data.toList = (F, N, B)) (hL : splS 59 F = L) : rdI s = rdL L (ofL N) := by
  subst hL
  unfold rdI rdL
  rw [hc]
  rfl
theorem rdL_no {L : List ByteArray} {n : ByteArray} (h : L.length ≠ 3) : rdL L n = polZ := by
  unfold rdL
  split
  · exact absurd rfl h
  · rfl
theorem three_of {l : List ByteArray} (h : l.length = 3) : ∃ a b c, l = [a, b, c] := by
  match l, h with
  | [a, b, c], _ => exact ⟨a, b, c, rfl⟩

end Go.Proofs.YtpkicliimhflgaaDoor

/- Helper contracts: FormatPolicy of the model and of the program. Asked: the policy's slices read as named, its strings are not too long. Helper contracts: laws.big; the bytes that a law draws from stay what they are while no old block is written. The draws of FnPolicies. Helper contracts, no claim of their own. Helper contracts: IsAddr, FormatAddr of the program and of the model answer alike. Asked: the strings are shorter than 2^62 bytes. Helper contracts: strings.Cut at the separator "/": the first slash parts the string. Asked: the string is shorter than 2^62 bytes. Helper contracts: ParseAddr of the program and of the model answer alike. Asked: the strings are shorter than 2^62 bytes. -/
import Derived.Test.YtkjjiinccljhjaaGreatDoorMe7
import Derived.Deep.CutRange
import Derived.Test.YtkjjiinccljhjaaGreatDoorMe8
import Derived.Deep.RegionWith
import Derived.Test.YtkjjiinccljhjaaGreatDoorMe5
import Derived.Below
import Derived.Lib.Bytealg
import Derived.Lib.Walk
import Derived.Lib.Slices
namespace Go.Proofs.YtkjjiinccljhjaaGreatDoor

open Go.ChangeShapes Go.WideShapes Go.ChangeAt Go.RowKit

set_option maxRecDepth 100000 in
set_option maxHeartbeats 8000000 in
theorem fmtPol_spec (set : Bool) (scr sty img : List ByteArray) (non : ByteArray) (a1 : Option Addr) (n1 c1 : Nat) (a2 : Option Addr) (n2 c2 : Nat) (a3 : Option Addr) (n3 c3 : Nat) (hz : PolSm ⟨set, scr, sty, img, non⟩) (w : World) (hr : ReadP w.heap.size w (.slice a1 n1 c1) (.slice a2 n2 c2) (.slice a3 n3 c3) ⟨set, scr, sty, img, non⟩) :
    Calls Tryz.prog 137 #[.agg #[.bool set, .slice a1 n1 c1, .slice a2 n2 c2, .slice a3 n3 c3, .string non]] w fun e w' => e = .returned (.string (fmtP ⟨set, scr, sty, img, non⟩)) ∧ Below w.heap.size w w' := by
  obtain ⟨z1, z2, z3, z4⟩ := id hz
  cases set with
  | false =>
    obtain ⟨W, hW⟩ : ∃ W, w.alloc (.cells #[.bool false, .slice a1 n1 c1, .slice a2 n2 c2, .slice a3 n3 c3, .string non] 26) = W := ⟨_, rfl⟩
    have HG := Lib.hid (show Grw w W by rw [← hW]; exact (Grw.refl w).alloc _)
    have q0 : W.cell? ⟨w.heap.size, 0, none⟩ = some (.bool false) := by rw [← hW]; simp
    have q1 : W.cell? ⟨w.heap.size, 1, none⟩ = some (.slice a1 n1 c1) := by rw [← hW]; simp
    have q2 : W.cell? ⟨w.heap.size, 2, none⟩ = some (.slice a2 n2 c2) := by rw [← hW]; simp
    have q3 : W.cell? ⟨w.heap.size, 3, none⟩ = some (.slice a3 n3 c3) := by rw [← hW]; simp
    have q4 : W.cell? ⟨w.heap.size, 4, none⟩ = some (.string non) := by rw [← hW]; simp
    obtain ⟨hr1, hr2, hr3⟩ := (hr.below HG.out.below (Nat.le_refl _)).mono HG.out.below.size
    have HR1 := Lib.hid hr1; have HR2 := Lib.hid hr2; have HR3 := Lib.hid hr3; clear hr hr1 hr2 hr3
    have HI := Lib.hid (isPol_spec false scr sty img non a1 n1 c1 a2 n2 c2 a3 n3 c3 hz W ⟨HR1.out, HR2.out, HR3.out⟩)
    have HV := Lib.hid (fmtP_no (p := ⟨false, scr, sty, img, non⟩) (by rintro ⟨h, _⟩; cases h))
    clear z1 z2 z3 z4 hz
    cases hp : isPol ⟨false, scr, sty, img, non⟩ with
    | false =>
      rw [hp] at HI
      clear hp
      go_enter Tryz.func137, Tryz.ntmps137
      go_wp2_with fail
      refine HI.out.mono ?_
      rintro e w1 ⟨rfl, hg⟩
      replace q0 := (hg.below.cell (show (⟨w.heap.size, 0, none⟩ : Addr).block < _ from World.block_lt_of_cell? _ _ q0)).trans q0
      replace q1 := (hg.below.cell (show (⟨w.heap.size, 1, none⟩ : Addr).block < _ from World.block_lt_of_cell? _ _ q1)).trans q1
      replace q2 := (hg.below.cell (show (⟨w.heap.size, 2, none⟩ : Addr).block < _ from World.block_lt_of_cell? _ _ q2)).trans q2
      replace q3 := (hg.below.cell (show (⟨w.heap.size, 3, none⟩ : Addr).block < _ from World.block_lt_of_cell? _ _ q3)).trans q3
      replace q4 := (hg.below.cell (show (⟨w.heap.size, 4, none⟩ : Addr).block < _ from World.block_lt_of_cell? _ _ q4)).trans q4
      replace HR1 := Lib.hid ((HR1.out.below hg.below (Nat.le_refl _)).mono hg.below.size)
      replace HR2 := Lib.hid ((HR2.out.below hg.below (Nat.le_refl _)).mono hg.below.size)
      replace HR3 := Lib.hid ((HR3.out.below hg.below (Nat.le_refl _)).mono hg.below.size)
      replace HG := Lib.hid (HG.out.trans hg); clear hg
      go_wp2_with fail
      go_ret
      exact ⟨by rw [HV.out]; rfl, HG.out.below⟩
    | true =>
      rw [hp] at HI
      clear hp
      go_enter Tryz.func137, Tryz.ntmps137
      go_wp2_with fail
      refine HI.out.mono ?_
      rintro e w1 ⟨rfl, hg⟩
      replace q0 := (hg.below.cell (show (⟨w.heap.size, 0, none⟩ : Addr).block < _ from World.block_lt_of_cell? _ _ q0)).trans q0
      replace q1 := (hg.below.cell (show (⟨w.heap.size, 1, none⟩ : Addr).block < _ from World.block_lt_of_cell? _ _ q1)).trans q1
      replace q2 := (hg.below.cell (show (⟨w.heap.size, 2, none⟩ : Addr).block < _ from World.block_lt_of_cell? _ _ q2)).trans q2
      replace q3 := (hg.below.cell (show (⟨w.heap.size, 3, none⟩ : Addr).block < _ from World.block_lt_of_cell? _ _ q3)).trans q3
      replace q4 := (hg.below.cell (show (⟨w.heap.size, 4, none⟩ : Addr).block < _ from World.block_lt_of_cell? _ _ q4)).trans q4
      replace HR1 := Lib.hid ((HR1.out.below hg.below (Nat.le_refl _)).mono hg.below.size)
      replace HR2 := Lib.hid ((HR2.out.below hg.below (Nat.le_refl _)).mono hg.below.size)
      replace HR3 := Lib.hid ((HR3.out.below hg.below (Nat.le_refl _)).mono hg.below.size)
      replace HG := Lib.hid (HG.out.trans hg); clear hg
      go_wp2_with fail
      go_ret
      exact ⟨by rw [HV.out]; rfl, HG.out.below⟩
  | true =>
    obtain ⟨W, hW⟩ : ∃ W, w.alloc (.cells #[.bool true, .slice a1 n1 c1, .slice a2 n2 c2, .slice a3 n3 c3, .string non] 26) = W := ⟨_, rfl⟩
    have HG := Lib.hid (show Grw w W by rw [← hW]; exact (Grw.refl w).alloc _)
    have q0 : W.cell? ⟨w.heap.size, 0, none⟩ = some (.bool true) := by rw [← hW]; simp
    have q1 : W.cell? ⟨w.heap.size, 1, none⟩ = some (.slice a1 n1 c1) := by rw [← hW]; simp
    have q2 : W.cell? ⟨w.heap.size, 2, none⟩ = some (.slice a2 n2 c2) := by rw [← hW]; simp
    have q3 : W.cell? ⟨w.heap.size, 3, none⟩ = some (.slice a3 n3 c3) := by rw [← hW]; simp
    have q4 : W.cell? ⟨w.heap.size, 4, none⟩ = some (.string non) := by rw [← hW]; simp
    obtain ⟨hr1, hr2, hr3⟩ := (hr.below HG.out.below (Nat.le_refl _)).mono HG.out.below.size
    have HR1 := Lib.hid hr1; have HR2 := Lib.hid hr2; have HR3 := Lib.hid hr3; clear hr hr1 hr2 hr3
    have HI := Lib.hid (isPol_spec true scr sty img non a1 n1 c1 a2 n2 c2 a3 n3 c3 hz W ⟨HR1.out, HR2.out, HR3.out⟩)
    clear hz
    cases hp : isPol ⟨true, scr, sty, img, non⟩ with
    | false =>
      rw [hp] at HI
      have HV := Lib.hid (fmtP_no (p := ⟨true, scr, sty, img, non⟩) (by rintro ⟨_, h⟩; rw [hp] at h; cases h)); clear z1 z2 z3 z4
      clear hp
      go_enter Tryz.func137, Tryz.ntmps137
      go_wp2_with fail
      refine HI.out.mono ?_
      rintro e w1 ⟨rfl, hg⟩
      replace q0 := (hg.below.cell (show (⟨w.heap.size, 0, none⟩ : Addr).block < _ from World.block_lt_of_cell? _ _ q0)).trans q0
      replace q1 := (hg.below.cell (show (⟨w.heap.size, 1, none⟩ : Addr).block < _ from World.block_lt_of_cell? _ _ q1)).trans q1
      replace q2 := (hg.below.cell (show (⟨w.heap.size, 2, none⟩ : Addr).block < _ from World.block_lt_of_cell? _ _ q2)).trans q2
      replace q3 := (hg.below.cell (show (⟨w.heap.size, 3, none⟩ : Addr).block < _ from World.block_lt_of_cell? _ _ q3)).trans q3
      replace q4 := (hg.below.cell (show (⟨w.heap.size, 4, none⟩ : Addr).block < _ from World.block_lt_of_cell? _ _ q4)).trans q4
      replace HR1 := Lib.hid ((HR1.out.below hg.below (Nat.le_refl _)).mono hg.below.size)
      replace HR2 := Lib.hid ((HR2.out.below hg.below (Nat.le_refl _)).mono hg.below.size)
      replace HR3 := Lib.hid ((HR3.out.below hg.below (Nat.le_refl _)).mono hg.below.size)
      replace HG := Lib.hid (HG.out.trans hg); clear hg
      go_wp2_with fail
      go_ret
      exact ⟨by rw [HV.out]; rfl, HG.out.below⟩
    | true =>
      rw [hp] at HI
      have HP := Lib.hid hp
      clear hp
      go_enter Tryz.func137, Tryz.ntmps137
      go_wp2_with fail
      refine HI.out.mono ?_
      rintro e w1 ⟨rfl, hg⟩
      replace q0 := (hg.below.cell (show (⟨w.heap.size, 0, none⟩ : Addr).block < _ from World.block_lt_of_cell? _ _ q0)).trans q0
      replace q1 := (hg.below.cell (show (⟨w.heap.size, 1, none⟩ : Addr).block < _ from World.block_lt_of_cell? _ _ q1)).trans q1
      replace q2 := (hg.below.cell (show (⟨w.heap.size, 2, none⟩ : Addr).block < _ from World.block_lt_of_cell? _ _ q2)).trans q2
      replace q3 := (hg.below.cell (show (⟨w.heap.size, 3, none⟩ : Addr).block < _ from World.block_lt_of_cell? _ _ q3)).trans q3
      replace q4 := (hg.below.cell (show (⟨w.heap.size, 4, none⟩ : Addr).block < _ from World.block_lt_of_cell? _ _ q4)).trans q4
      replace HR1 := Lib.hid ((HR1.out.below hg.below (Nat.le_refl _)).mono hg.below.size)
      replace HR2 := Lib.hid ((HR2.out.below hg.below (Nat.le_refl _)).mono hg.below.size)
      replace HR3 := Lib.hid ((HR3.out.below hg.below (Nat.le_refl _)).mono hg.below.size)
      replace HG := Lib.hid (HG.out.trans hg); clear hg
      have hs1 : (wordsS kScr scr).size ≤ 1048582 := by rw [wordsS_size]; have := z1; have h6 : kScr.size ≤ 6 := (by decide); omega
      have HW1 := Lib.hid (fun (X : World) (hb : Below w1.heap.size w1 X) => show Calls Tryz.prog 179 #[.string ⟨#[115, 99, 114, 105, 112, 116]⟩, .slice a1 n1 c1] X fun e w' => e = .returned (.string (wordsS kScr scr)) ∧ Below X.heap.size X w' from (words9_spec _ _ scr kScr X (HR1.out.below hb (Nat.le_refl _)) (by decide) z1).mono fun e w' h => ⟨h.1, by rw [← h.2]; exact Below.refl _ _⟩)
      have hs2 : (wordsS kSty sty).size ≤ 1048582 := by rw [wordsS_size]; have := z2; have h6 : kSty.size ≤ 6 := (by decide); omega
      have HW2 := Lib.hid (fun (X : World) (hb : Below w1.heap.size w1 X) => show Calls Tryz.prog 179 #[.string ⟨#[115, 116, 121, 108, 101]⟩, .slice a2 n2 c2] X fun e w' => e = .returned (.string (wordsS kSty sty)) ∧ Below X.heap.size X w' from (words9_spec _ _ sty kSty X (HR2.out.below hb (Nat.le_refl _)) (by decide) z2).mono fun e w' h => ⟨h.1, by rw [← h.2]; exact Below.refl _ _⟩)
      have hs3 : (wordsS kImg img).size ≤ 1048582 := by rw [wordsS_size]; have := z3; have h6 : kImg.size ≤ 6 := (by decide); omega
      have HW3 := Lib.hid (fun (X : World) (hb : Below w1.heap.size w1 X) => show Calls Tryz.prog 179 #[.string ⟨#[105, 109, 103]⟩, .slice a3 n3 c3] X fun e w' => e = .returned (.string (wordsS kImg img)) ∧ Below X.heap.size X w' from (words9_spec _ _ img kImg X (HR3.out.below hb (Nat.le_refl _)) (by decide) z3).mono fun e w' h => ⟨h.1, by rw [← h.2]; exact Below.refl _ _⟩)
      have HLS := Lib.hid (show (fmtP ⟨true, scr, sty, img, non⟩).data.toList = (wordsS kScr scr).data.toList ++ 59 :: ((wordsS kSty sty).data.toList ++ 59 :: ((wordsS kImg img).data.toList ++ nonL non)) by rw [fmtP_list rfl HP.out, wordsS_list, wordsS_list, wordsS_list])
      have hz4 : non.size ≤ 1048576 := z4
      clear z1 z2 z3 z4
      obtain ⟨X1, hX1⟩ : ∃ X, wordsS kScr scr = X := ⟨_, rfl⟩
      rw [hX1] at hs1 HW1 HLS
      clear hX1
      obtain ⟨X2, hX2⟩ : ∃ X, wordsS kSty sty = X := ⟨_, rfl⟩
      rw [hX2] at hs2 HW2 HLS
      clear hX2
      obtain ⟨X3, hX3⟩ : ∃ X, wordsS kImg img = X := ⟨_, rfl⟩
      rw [hX3] at hs3 HW3 HLS
      clear hX3
      have h59 : (⟨#[59]⟩ : ByteArray).size = 1 := rfl
      obtain ⟨A1, hA1⟩ : ∃ Y, X1 ++ ⟨#[59]⟩ = Y := ⟨_, rfl⟩
      have y1 : A1.size ≤ 1048583 := by rw [← hA1, ByteArray.size_append]; omega
      have s1 : ∀ W, (Op.stringOp .add X1 ⟨#[59]⟩).run Tryz.prog W = .ok (.string A1) W := fun W => by rw [← hA1]; exact run_string_add_sum _ _ _ (by omega)
      obtain ⟨A2, hA2⟩ : ∃ Y, A1 ++ X2 = Y := ⟨_, rfl⟩
      have y2 : A2.size ≤ 2097166 := by rw [← hA2, ByteArray.size_append]; omega
      have s2 : ∀ W, (Op.stringOp .add A1 X2).run Tryz.prog W = .ok (.string A2) W := fun W => by rw [← hA2]; exact run_string_add_sum _ _ _ (by omega)
      obtain ⟨A3, hA3⟩ : ∃ Y, A2 ++ ⟨#[59]⟩ = Y := ⟨_, rfl⟩
      have y3 : A3.size ≤ 3145749 := by rw [← hA3, ByteArray.size_append]; omega
      have s3 : ∀ W, (Op.stringOp .add A2 ⟨#[59]⟩).run Tryz.prog W = .ok (.string A3) W := fun W => by rw [← hA3]; exact run_string_add_sum _ _ _ (by omega)
      obtain ⟨A4, hA4⟩ : ∃ Y, A3 ++ X3 = Y := ⟨_, rfl⟩
      have y4 : A4.size ≤ 4194332 := by rw [← hA4, ByteArray.size_append]; omega
      have s4 : ∀ W, (Op.stringOp .add A3 X3).run Tryz.prog W = .ok (.string A4) W := fun W => by rw [← hA4]; exact run_string_add_sum _ _ _ (by omega)
      have HA4 := Lib.hid (show A4.data.toList = X1.data.toList ++ 59 :: (X2.data.toList ++ 59 :: X3.data.toList) by rw [← hA4, ← hA3, ← hA2, ← hA1, append_list, append_list, append_list, append_list]; simp [List.append_assoc])
      clear hA1 hA2 hA3 hA4
      go_upto_region 3 with (fail)
      go_cut [3] from 12 to 24 (fun c wx => c = .string A4 ∧ Below w1.heap.size w1 wx)
      case first =>
        have KEEP := Lib.hid (fun (w' : World) (h : Below w1.heap.size w1 w') => show Below w1.heap.size w1 w' ∧ w'.cell? ⟨w.heap.size, 1, none⟩ = some (.slice a1 n1 c1) ∧ w'.cell? ⟨w.heap.size, 2, none⟩ = some (.slice a2 n2 c2) ∧ w'.cell? ⟨w.heap.size, 3, none⟩ = some (.slice a3 n3 c3) from ⟨h, (h.cell (show (⟨w.heap.size, 1, none⟩ : Addr).block < _ from World.block_lt_of_cell? _ _ q1)).trans q1, (h.cell (show (⟨w.heap.size, 2, none⟩ : Addr).block < _ from World.block_lt_of_cell? _ _ q2)).trans q2, (h.cell (show (⟨w.heap.size, 3, none⟩ : Addr).block < _ from World.block_lt_of_cell? _ _ q3)).trans q3⟩)
        go_region_held3 (fun w' => Below w1.heap.size w1 w' ∧ w'.cell? ⟨w.heap.size, 1, none⟩ = some (.slice a1 n1 c1) ∧ w'.cell? ⟨w.heap.size, 2, none⟩ = some (.slice a2 n2 c2) ∧ w'.cell? ⟨w.heap.size, 3, none⟩ = some (.slice a3 n3 c3)) (exact KEEP.out _ (by repeat' (first | (with_reducible exact Below.refl _ _) | (with_reducible exact hPC) | (with_reducible exact hPB) | (with_reducible exact hPA) | (with_reducible refine bl_dw ?_) | (with_reducible refine bl_aw ?_ _)))) (first | (go_at_call 179; with_reducible refine (HW1.out _ (by repeat' (first | (with_reducible exact Below.refl _ _) | (with_reducible exact hPC) | (with_reducible exact hPB) | (with_reducible exact hPA) | (with_reducible refine bl_dw ?_) | (with_reducible refine bl_aw ?_ _)))).mono ?_; rintro e wA ⟨rfl, hbA⟩; have hPA := bl_tr (show Below w1.heap.size w1 _ from (by repeat' (first | (with_reducible exact Below.refl _ _) | (with_reducible exact hPC) | (with_reducible exact hPB) | (with_reducible exact hPA) | (with_reducible refine bl_dw ?_) | (with_reducible refine bl_aw ?_ _)))) hbA) | (go_at_call 179; with_reducible refine (HW2.out _ (by repeat' (first | (with_reducible exact Below.refl _ _) | (with_reducible exact hPC) | (with_reducible exact hPB) | (with_reducible exact hPA) | (with_reducible refine bl_dw ?_) | (with_reducible refine bl_aw ?_ _)))).mono ?_; rintro e wB ⟨rfl, hbB⟩; have hPB := bl_tr (show Below w1.heap.size w1 _ from (by repeat' (first | (with_reducible exact Below.refl _ _) | (with_reducible exact hPC) | (with_reducible exact hPB) | (with_reducible exact hPA) | (with_reducible refine bl_dw ?_) | (with_reducible refine bl_aw ?_ _)))) hbB) | (go_at_call 179; with_reducible refine (HW3.out _ (by repeat' (first | (with_reducible exact Below.refl _ _) | (with_reducible exact hPC) | (with_reducible exact hPB) | (with_reducible exact hPA) | (with_reducible refine bl_dw ?_) | (with_reducible refine bl_aw ?_ _)))).mono ?_; rintro e wC ⟨rfl, hbC⟩; have hPC := bl_tr (show Below w1.heap.size w1 _ from (by repeat' (first | (with_reducible exact Below.refl _ _) | (with_reducible exact hPC) | (with_reducible exact hPB) | (with_reducible exact hPA) | (with_reducible refine bl_dw ?_) | (with_reducible refine bl_aw ?_ _)))) hbC))
        all_goals
          go_wp2_with fail
          go_meet
          exact ⟨rfl, (by repeat' (first | (with_reducible exact Below.refl _ _) | (with_reducible exact hPC) | (with_reducible exact hPB) | (with_reducible exact hPA) | (with_reducible refine bl_dw ?_) | (with_reducible refine bl_aw ?_ _)))⟩
      obtain ⟨rfl, hB⟩ := hcut
      rename World => w_2
      replace q4 := (hB.cell (show (⟨w.heap.size, 4, none⟩ : Addr).block < _ from World.block_lt_of_cell? _ _ q4)).trans q4
      have HB := Lib.hid (HG.out.below.trans (hB.mono HG.out.below.size)); clear hB q0 q1 q2 q3 s1 s2 s3 s4
      by_cases m4 : non.size = 0
      · have b4 : (non.toList == []) = true := by rw [empP_size, decide_eq_true m4]
        have b5 : (non.toList != []) = false := by rw [bne, b4]; rfl
        have HV := Lib.hid (show A4 = fmtP ⟨true, scr, sty, img, non⟩ from bytesEq (by rw [HLS.out, HA4.out]; unfold nonL; rw [if_pos m4, List.append_nil])); clear m4
        go_wp2_with fail
        go_ret
        exact ⟨by rw [← HV.out]; rfl, HB.out⟩
      · have b4 : (non.toList == []) = false := by rw [empP_size, decide_eq_false m4]
        have b5 : (non.toList != []) = true := by rw [bne, b4]; rfl
        have h7 : (⟨#[59, 110, 111, 110, 99, 101, 32]⟩ : ByteArray).size = 7 := rfl
        obtain ⟨A5, hA5⟩ : ∃ Y, A4 ++ ⟨#[59, 110, 111, 110, 99, 101, 32]⟩ = Y := ⟨_, rfl⟩
        have y5 : A5.size ≤ 9194308 := by rw [← hA5, ByteArray.size_append]; omega
        have s5 : ∀ W, (Op.stringOp .add A4 ⟨#[59, 110, 111, 110, 99, 101, 32]⟩).run Tryz.prog W = .ok (.string A5) W := fun W => by rw [← hA5]; exact run_string_add_sum _ _ _ (by omega)
        obtain ⟨A6, hA6⟩ : ∃ Y, A5 ++ non = Y := ⟨_, rfl⟩
        have s6 : ∀ W, (Op.stringOp .add A5 non).run Tryz.prog W = .ok (.string A6) W := fun W => by rw [← hA6]; exact run_string_add_sum _ _ _ (by omega)
        have HV := Lib.hid (show A6 = fmtP ⟨true, scr, sty, img, non⟩ from bytesEq (by rw [HLS.out, ← hA6, ← hA5, append_list, append_list, HA4.out]; unfold nonL; rw [if_neg m4]; simp [List.append_assoc, kNon])); clear m4 hA5 hA6
        go_wp2_with fail
        go_ret
        exact ⟨by rw [← HV.out]; rfl, HB.out⟩

set_option maxRecDepth 100000 in
set_option maxHeartbeats 8000000 in
theorem fmtPol_impl (set : Bool) (scr sty img : List ByteArray) (non : ByteArray) (a1 : Option Addr) (n1 c1 : Nat) (a2 : Option Addr) (n2 c2 : Nat) (a3 : Option Addr) (n3 c3 : Nat) (hz : PolSm ⟨set, scr, sty, img, non⟩) (w : World) (hr : ReadP w.heap.size w (.slice a1 n1 c1) (.slice a2 n2 c2) (.slice a3 n3 c3) ⟨set, scr, sty, img, non⟩) :
    Calls Tryz.prog 152 #[.agg #[.bool set, .slice a1 n1 c1, .slice a2 n2 c2, .slice a3 n3 c3, .string non]] w fun e w' => e = .returned (.string (fmtP ⟨set, scr, sty, img, non⟩)) ∧ Below w.heap.size w w' := by
  obtain ⟨z1, z2, z3, z4⟩ := id hz
  cases set with
  | false =>
    obtain ⟨W, hW⟩ : ∃ W, w.alloc (.cells #[.bool false, .slice a1 n1 c1, .slice a2 n2 c2, .slice a3 n3 c3, .string non] 26) = W := ⟨_, rfl⟩
    have HG := Lib.hid (show Grw w W by rw [← hW]; exact (Grw.refl w).alloc _)
    have q0 : W.cell? ⟨w.heap.size, 0, none⟩ = some (.bool false) := by rw [← hW]; simp
    have q1 : W.cell? ⟨w.heap.size, 1, none⟩ = some (.slice a1 n1 c1) := by rw [← hW]; simp
    have q2 : W.cell? ⟨w.heap.size, 2, none⟩ = some (.slice a2 n2 c2) := by rw [← hW]; simp
    have q3 : W.cell? ⟨w.heap.size, 3, none⟩ = some (.slice a3 n3 c3) := by rw [← hW]; simp
    have q4 : W.cell? ⟨w.heap.size, 4, none⟩ = some (.string non) := by rw [← hW]; simp
    obtain ⟨hr1, hr2, hr3⟩ := (hr.below HG.out.below (Nat.le_refl _)).mono HG.out.below.size
    have HR1 := Lib.hid hr1; have HR2 := Lib.hid hr2; have HR3 := Lib.hid hr3; clear hr hr1 hr2 hr3
    have HI := Lib.hid (isPol_impl false scr sty img non a1 n1 c1 a2 n2 c2 a3 n3 c3 hz W ⟨HR1.out, HR2.out, HR3.out⟩)
    have HV := Lib.hid (fmtP_no (p := ⟨false, scr, sty, img, non⟩) (by rintro ⟨h, _⟩; cases h))
    clear z1 z2 z3 z4 hz
    clear HI
    go_enter Tryz.func152, Tryz.ntmps152
    go_wp2_with fail
    go_ret
    exact ⟨by rw [HV.out]; rfl, HG.out.below⟩
  | true =>
    obtain ⟨W, hW⟩ : ∃ W, w.alloc (.cells #[.bool true, .slice a1 n1 c1, .slice a2 n2 c2, .slice a3 n3 c3, .string non] 26) = W := ⟨_, rfl⟩
    have HG := Lib.hid (show Grw w W by rw [← hW]; exact (Grw.refl w).alloc _)
    have q0 : W.cell? ⟨w.heap.size, 0, none⟩ = some (.bool true) := by rw [← hW]; simp
    have q1 : W.cell? ⟨w.heap.size, 1, none⟩ = some (.slice a1 n1 c1) := by rw [← hW]; simp
    have q2 : W.cell? ⟨w.heap.size, 2, none⟩ = some (.slice a2 n2 c2) := by rw [← hW]; simp
    have q3 : W.cell? ⟨w.heap.size, 3, none⟩ = some (.slice a3 n3 c3) := by rw [← hW]; simp
    have q4 : W.cell? ⟨w.heap.size, 4, none⟩ = some (.string non) := by rw [← hW]; simp
    obtain ⟨hr1, hr2, hr3⟩ := (hr.below HG.out.below (Nat.le_refl _)).mono HG.out.below.size
    have HR1 := Lib.hid hr1; have HR2 := Lib.hid hr2; have HR3 := Lib.hid hr3; clear hr hr1 hr2 hr3
    have HI := Lib.hid (isPol_impl true scr sty img non a1 n1 c1 a2 n2 c2 a3 n3 c3 hz W ⟨HR1.out, HR2.out, HR3.out⟩)
    clear hz
    cases hp : isPol ⟨true, scr, sty, img, non⟩ with
    | false =>
      rw [hp] at HI
      have HV := Lib.hid (fmtP_no (p := ⟨true, scr, sty, img, non⟩) (by rintro ⟨_, h⟩; rw [hp] at h; cases h)); clear z1 z2 z3 z4
      clear hp
      go_enter Tryz.func152, Tryz.ntmps152
      go_wp2_with fail
      refine HI.out.mono ?_
      rintro e w1 ⟨rfl, hg⟩
      replace q0 := (hg.below.cell (show (⟨w.heap.size, 0, none⟩ : Addr).block < _ from World.block_lt_of_cell? _ _ q0)).trans q0
      replace q1 := (hg.below.cell (show (⟨w.heap.size, 1, none⟩ : Addr).block < _ from World.block_lt_of_cell? _ _ q1)).trans q1
      replace q2 := (hg.below.cell (show (⟨w.heap.size, 2, none⟩ : Addr).block < _ from World.block_lt_of_cell? _ _ q2)).trans q2
      replace q3 := (hg.below.cell (show (⟨w.heap.size, 3, none⟩ : Addr).block < _ from World.block_lt_of_cell? _ _ q3)).trans q3
      replace q4 := (hg.below.cell (show (⟨w.heap.size, 4, none⟩ : Addr).block < _ from World.block_lt_of_cell? _ _ q4)).trans q4
      replace HR1 := Lib.hid ((HR1.out.below hg.below (Nat.le_refl _)).mono hg.below.size)
      replace HR2 := Lib.hid ((HR2.out.below hg.below (Nat.le_refl _)).mono hg.below.size)
      replace HR3 := Lib.hid ((HR3.out.below hg.below (Nat.le_refl _)).mono hg.below.size)
      replace HG := Lib.hid (HG.out.trans hg); clear hg
      go_wp2_with fail
      go_ret
      exact ⟨by rw [HV.out]; rfl, HG.out.below⟩
    | true =>
      rw [hp] at HI
      have HP := Lib.hid hp
      clear hp
      go_enter Tryz.func152, Tryz.ntmps152
      go_wp2_with fail
      refine HI.out.mono ?_
      rintro e w1 ⟨rfl, hg⟩
      replace q0 := (hg.below.cell (show (⟨w.heap.size, 0, none⟩ : Addr).block < _ from World.block_lt_of_cell? _ _ q0)).trans q0
      replace q1 := (hg.below.cell (show (⟨w.heap.size, 1, none⟩ : Addr).block < _ from World.block_lt_of_cell? _ _ q1)).trans q1
      replace q2 := (hg.below.cell (show (⟨w.heap.size, 2, none⟩ : Addr).block < _ from World.block_lt_of_cell? _ _ q2)).trans q2
      replace q3 := (hg.below.cell (show (⟨w.heap.size, 3, none⟩ : Addr).block < _ from World.block_lt_of_cell? _ _ q3)).trans q3
      replace q4 := (hg.below.cell (show (⟨w.heap.size, 4, none⟩ : Addr).block < _ from World.block_lt_of_cell? _ _ q4)).trans q4
      replace HR1 := Lib.hid ((HR1.out.below hg.below (Nat.le_refl _)).mono hg.below.size)
      replace HR2 := Lib.hid ((HR2.out.below hg.below (Nat.le_refl _)).mono hg.below.size)
      replace HR3 := Lib.hid ((HR3.out.below hg.below (Nat.le_refl _)).mono hg.below.size)
      replace HG := Lib.hid (HG.out.trans hg); clear hg
      have hs1 : (wordsS kScr scr).size ≤ 1048582 := by rw [wordsS_size]; have := z1; have h6 : kScr.size ≤ 6 := (by decide); omega
      have HW1 := Lib.hid (fun (X : World) (hb : Below w1.heap.size w1 X) => show Calls Tryz.prog 187 #[.string ⟨#[115, 99, 114, 105, 112, 116]⟩, .slice a1 n1 c1] X fun e w' => e = .returned (.string (wordsS kScr scr)) ∧ Below X.heap.size X w' from (formatHosts_impl _ _ scr kScr X (HR1.out.below hb (Nat.le_refl _)) hb.size (by decide) z1).mono fun e w' h => h)
      have hs2 : (wordsS kSty sty).size ≤ 1048582 := by rw [wordsS_size]; have := z2; have h6 : kSty.size ≤ 6 := (by decide); omega
      have HW2 := Lib.hid (fun (X : World) (hb : Below w1.heap.size w1 X) => show Calls Tryz.prog 187 #[.string ⟨#[115, 116, 121, 108, 101]⟩, .slice a2 n2 c2] X fun e w' => e = .returned (.string (wordsS kSty sty)) ∧ Below X.heap.size X w' from (formatHosts_impl _ _ sty kSty X (HR2.out.below hb (Nat.le_refl _)) hb.size (by decide) z2).mono fun e w' h => h)
      have hs3 : (wordsS kImg img).size ≤ 1048582 := by rw [wordsS_size]; have := z3; have h6 : kImg.size ≤ 6 := (by decide); omega
      have HW3 := Lib.hid (fun (X : World) (hb : Below w1.heap.size w1 X) => show Calls Tryz.prog 187 #[.string ⟨#[105, 109, 103]⟩, .slice a3 n3 c3] X fun e w' => e = .returned (.string (wordsS kImg img)) ∧ Below X.heap.size X w' from (formatHosts_impl _ _ img kImg X (HR3.out.below hb (Nat.le_refl _)) hb.size (by decide) z3).mono fun e w' h => h)
      have HLS := Lib.hid (show (fmtP ⟨true, scr, sty, img, non⟩).data.toList = (wordsS kScr scr).data.toList ++ 59 :: ((wordsS kSty sty).data.toList ++ 59 :: ((wordsS kImg img).data.toList ++ nonL non)) by rw [fmtP_list rfl HP.out, wordsS_list, wordsS_list, wordsS_list])
      have hz4 : non.size ≤ 1048576 := z4
      clear z1 z2 z3 z4
      obtain ⟨X1, hX1⟩ : ∃ X, wordsS kScr scr = X := ⟨_, rfl⟩
      rw [hX1] at hs1 HW1 HLS
      clear hX1
      obtain ⟨X2, hX2⟩ : ∃ X, wordsS kSty sty = X := ⟨_, rfl⟩
      rw [hX2] at hs2 HW2 HLS
      clear hX2
      obtain ⟨X3, hX3⟩ : ∃ X, wordsS kImg img = X := ⟨_, rfl⟩
      rw [hX3] at hs3 HW3 HLS
      clear hX3
      have h59 : (⟨#[59]⟩ : ByteArray).size = 1 := rfl
      obtain ⟨A1, hA1⟩ : ∃ Y, X1 ++ ⟨#[59]⟩ = Y := ⟨_, rfl⟩
      have y1 : A1.size ≤ 1048583 := by rw [← hA1, ByteArray.size_append]; omega
      have s1 : ∀ W, (Op.stringOp .add X1 ⟨#[59]⟩).run Tryz.prog W = .ok (.string A1) W := fun W => by rw [← hA1]; exact run_string_add_sum _ _ _ (by omega)
      obtain ⟨A2, hA2⟩ : ∃ Y, A1 ++ X2 = Y := ⟨_, rfl⟩
      have y2 : A2.size ≤ 2097166 := by rw [← hA2, ByteArray.size_append]; omega
      have s2 : ∀ W, (Op.stringOp .add A1 X2).run Tryz.prog W = .ok (.string A2) W := fun W => by rw [← hA2]; exact run_string_add_sum _ _ _ (by omega)
      obtain ⟨A3, hA3⟩ : ∃ Y, A2 ++ ⟨#[59]⟩ = Y := ⟨_, rfl⟩
      have y3 : A3.size ≤ 3145749 := by rw [← hA3, ByteArray.size_append]; omega
      have s3 : ∀ W, (Op.stringOp .add A2 ⟨#[59]⟩).run Tryz.prog W = .ok (.string A3) W := fun W => by rw [← hA3]; exact run_string_add_sum _ _ _ (by omega)
      obtain ⟨A4, hA4⟩ : ∃ Y, A3 ++ X3 = Y := ⟨_, rfl⟩
      have y4 : A4.size ≤ 4194332 := by rw [← hA4, ByteArray.size_append]; omega
      have s4 : ∀ W, (Op.stringOp .add A3 X3).run Tryz.prog W = .ok (.string A4) W := fun W => by rw [← hA4]; exact run_string_add_sum _ _ _ (by omega)
      have HA4 := Lib.hid (show A4.data.toList = X1.data.toList ++ 59 :: (X2.data.toList ++ 59 :: X3.data.toList) by rw [← hA4, ← hA3, ← hA2, ← hA1, append_list, append_list, append_list, append_list]; simp [List.append_assoc])
      clear hA1 hA2 hA3 hA4
      go_upto_region 3 with (fail)
      go_cut [3] from 12 to 24 (fun c wx => c = .string A4 ∧ Below w1.heap.size w1 wx)
      case first =>
        have KEEP := Lib.hid (fun (w' : World) (h : Below w1.heap.size w1 w') => show Below w1.heap.size w1 w' ∧ w'.cell? ⟨w.heap.size, 1, none⟩ = some (.slice a1 n1 c1) ∧ w'.cell? ⟨w.heap.size, 2, none⟩ = some (.slice a2 n2 c2) ∧ w'.cell? ⟨w.heap.size, 3, none⟩ = some (.slice a3 n3 c3) from ⟨h, (h.cell (show (⟨w.heap.size, 1, none⟩ : Addr).block < _ from World.block_lt_of_cell? _ _ q1)).trans q1, (h.cell (show (⟨w.heap.size, 2, none⟩ : Addr).block < _ from World.block_lt_of_cell? _ _ q2)).trans q2, (h.cell (show (⟨w.heap.size, 3, none⟩ : Addr).block < _ from World.block_lt_of_cell? _ _ q3)).trans q3⟩)
        go_region_held3 (fun w' => Below w1.heap.size w1 w' ∧ w'.cell? ⟨w.heap.size, 1, none⟩ = some (.slice a1 n1 c1) ∧ w'.cell? ⟨w.heap.size, 2, none⟩ = some (.slice a2 n2 c2) ∧ w'.cell? ⟨w.heap.size, 3, none⟩ = some (.slice a3 n3 c3)) (exact KEEP.out _ (by repeat' (first | (with_reducible exact Below.refl _ _) | (with_reducible exact hPC) | (with_reducible exact hPB) | (with_reducible exact hPA) | (with_reducible refine bl_dw ?_) | (with_reducible refine bl_aw ?_ _)))) (first | (go_at_call 187; with_reducible refine (HW1.out _ (by repeat' (first | (with_reducible exact Below.refl _ _) | (with_reducible exact hPC) | (with_reducible exact hPB) | (with_reducible exact hPA) | (with_reducible refine bl_dw ?_) | (with_reducible refine bl_aw ?_ _)))).mono ?_; rintro e wA ⟨rfl, hbA⟩; have hPA := bl_tr (show Below w1.heap.size w1 _ from (by repeat' (first | (with_reducible exact Below.refl _ _) | (with_reducible exact hPC) | (with_reducible exact hPB) | (with_reducible exact hPA) | (with_reducible refine bl_dw ?_) | (with_reducible refine bl_aw ?_ _)))) hbA) | (go_at_call 187; with_reducible refine (HW2.out _ (by repeat' (first | (with_reducible exact Below.refl _ _) | (with_reducible exact hPC) | (with_reducible exact hPB) | (with_reducible exact hPA) | (with_reducible refine bl_dw ?_) | (with_reducible refine bl_aw ?_ _)))).mono ?_; rintro e wB ⟨rfl, hbB⟩; have hPB := bl_tr (show Below w1.heap.size w1 _ from (by repeat' (first | (with_reducible exact Below.refl _ _) | (with_reducible exact hPC) | (with_reducible exact hPB) | (with_reducible exact hPA) | (with_reducible refine bl_dw ?_) | (with_reducible refine bl_aw ?_ _)))) hbB) | (go_at_call 187; with_reducible refine (HW3.out _ (by repeat' (first | (with_reducible exact Below.refl _ _) | (with_reducible exact hPC) | (with_reducible exact hPB) | (with_reducible exact hPA) | (with_reducible refine bl_dw ?_) | (with_reducible refine bl_aw ?_ _)))).mono ?_; rintro e wC ⟨rfl, hbC⟩; have hPC := bl_tr (show Below w1.heap.size w1 _ from (by repeat' (first | (with_reducible exact Below.refl _ _) | (with_reducible exact hPC) | (with_reducible exact hPB) | (with_reducible exact hPA) | (with_reducible refine bl_dw ?_) | (with_reducible refine bl_aw ?_ _)))) hbC))
        all_goals
          go_wp2_with fail
          go_meet
          exact ⟨rfl, (by repeat' (first | (with_reducible exact Below.refl _ _) | (with_reducible exact hPC) | (with_reducible exact hPB) | (with_reducible exact hPA) | (with_reducible refine bl_dw ?_) | (with_reducible refine bl_aw ?_ _)))⟩
      obtain ⟨rfl, hB⟩ := hcut
      rename World => w_2
      replace q4 := (hB.cell (show (⟨w.heap.size, 4, none⟩ : Addr).block < _ from World.block_lt_of_cell? _ _ q4)).trans q4
      have HB := Lib.hid (HG.out.below.trans (hB.mono HG.out.below.size)); clear hB q0 q1 q2 q3 s1 s2 s3 s4
      by_cases m4 : non.size = 0
      · have b4 : (non.toList == []) = true := by rw [empP_size, decide_eq_true m4]
        have b5 : (non.toList != []) = false := by rw [bne, b4]; rfl
        have HV := Lib.hid (show A4 = fmtP ⟨true, scr, sty, img, non⟩ from bytesEq (by rw [HLS.out, HA4.out]; unfold nonL; rw [if_pos m4, List.append_nil])); clear m4
        go_wp2_with fail
        go_ret
        exact ⟨by rw [← HV.out]; rfl, HB.out⟩
      · have b4 : (non.toList == []) = false := by rw [empP_size, decide_eq_false m4]
        have b5 : (non.toList != []) = true := by rw [bne, b4]; rfl
        have h7 : (⟨#[59, 110, 111, 110, 99, 101, 32]⟩ : ByteArray).size = 7 := rfl
        obtain ⟨A5, hA5⟩ : ∃ Y, ⟨#[59, 110, 111, 110, 99, 101, 32]⟩ ++ non = Y := ⟨_, rfl⟩
        have y5 : A5.size ≤ 9194308 := by rw [← hA5, ByteArray.size_append]; omega
        have s5 : ∀ W, (Op.stringOp .add ⟨#[59, 110, 111, 110, 99, 101, 32]⟩ non).run Tryz.prog W = .ok (.string A5) W := fun W => by rw [← hA5]; exact run_string_add_sum _ _ _ (by omega)
        obtain ⟨A6, hA6⟩ : ∃ Y, A4 ++ A5 = Y := ⟨_, rfl⟩
        have s6 : ∀ W, (Op.stringOp .add A4 A5).run Tryz.prog W = .ok (.string A6) W := fun W => by rw [← hA6]; exact run_string_add_sum _ _ _ (by omega)
        have HV := Lib.hid (show A6 = fmtP ⟨true, scr, sty, img, non⟩ from bytesEq (by rw [HLS.out, ← hA6, ← hA5, append_list, append_list, HA4.out]; unfold nonL; rw [if_neg m4]; simp [List.append_assoc, kNon])); clear m4 hA5 hA6
        go_wp2_with fail
        go_ret
        exact ⟨by rw [← HV.out]; rfl, HB.out⟩

end Go.Proofs.YtkjjiinccljhjaaGreatDoor
namespace Go.Proofs.YtkjjiinccljhjaaGreatDoor
open Go.ChangeShapes Go.WideShapes Go.ChangeAt Go.RowKit

theorem big_yes (a : Option Addr) (len cap : Nat) (w : World) (h : (1048576 : Int) < (len : Int)) :
    Calls Tryz.prog 10 #[.slice a len cap] w fun e w' => e = .returned (.bool true) ∧ w = w' := by
  go_enter Tryz.func10, Tryz.ntmps10
  go_wp2
  go_ret
  exact ⟨rfl, rfl⟩
theorem big_no (a : Option Addr) (len cap : Nat) (w : World) (h : ¬ (1048576 : Int) < (len : Int)) :
    Calls Tryz.prog 10 #[.slice a len cap] w fun e w' => e = .returned (.bool false) ∧ w = w' := by
  go_enter Tryz.func10, Tryz.ntmps10
  go_wp2
  go_ret
  exact ⟨rfl, rfl⟩
theorem codeOk_later {w w' : World} {sv : Value} {len : Nat} (h : CodeOk w.heap.size w sv len) (hb : Below w.heap.size w w') : CodeOk w'.heap.size w' sv len := by
  obtain ⟨a, cap, e, h1, h2⟩ := h
  refine ⟨a, cap, e, h1, ?_⟩
  rcases h2 with h2 | ⟨blk, off, e2, hlt, hc⟩
  · exact Or.inl h2
  · refine Or.inr ⟨blk, off, e2, Nat.lt_of_lt_of_le hlt hb.size, fun j hj => ?_⟩
    obtain ⟨n, n0, n1, hn⟩ := hc j hj
    exact ⟨n, n0, n1, by rw [hb.cell hlt]; exact hn⟩

end Go.Proofs.YtkjjiinccljhjaaGreatDoor
namespace Go.Proofs.YtkjjiinccljhjaaGreatDoor
open Go.ChangeShapes Go.WideShapes Go.ChangeAt Go.RowKit

/-- A policy that was drawn; nothing old is written. -/
def PolDrawn (w : World) (e : Ending) (w' : World) : Prop :=
  ∃ (bo : Bool) (a1 : Option Addr) (n1 c1 : Nat) (a2 : Option Addr) (n2 c2 : Nat) (a3 : Option Addr) (n3 c3 : Nat) (xs ys zs : List ByteArray) (t : ByteArray), e = .returned (.agg #[.bool bo, .slice a1 n1 c1, .slice a2 n2 c2, .slice a3 n3 c3, .string t]) ∧ Rd1 w.heap.size w' (.slice a1 n1 c1) xs ∧ Rd1 w.heap.size w' (.slice a2 n2 c2) ys ∧ Rd1 w.heap.size w' (.slice a3 n3 c3) zs ∧ FewP xs ys zs t ∧ Below w.heap.size w w'
/-- Two policies that were drawn; nothing old is written. -/
def TwoDrawn (w : World) (e : Ending) (w' : World) : Prop :=
  ∃ (bo : Bool) (a1 : Option Addr) (n1 c1 : Nat) (a2 : Option Addr) (n2 c2 : Nat) (a3 : Option Addr) (n3 c3 : Nat) (xs ys zs : List ByteArray) (t : ByteArray) (bo' : Bool) (a1' : Option Addr) (n1' c1' : Nat) (a2' : Option Addr) (n2' c2' : Nat) (a3' : Option Addr) (n3' c3' : Nat) (xs' ys' zs' : List ByteArray) (t' : ByteArray),
    e = .returned (.tuple #[.agg #[.bool bo, .slice a1 n1 c1, .slice a2 n2 c2, .slice a3 n3 c3, .string t], .agg #[.bool bo', .slice a1' n1' c1', .slice a2' n2' c2', .slice a3' n3' c3', .string t']]) ∧ Rd1 w.heap.size w' (.slice a1 n1 c1) xs ∧ Rd1 w.heap.size w' (.slice a2 n2 c2) ys ∧ Rd1 w.heap.size w' (.slice a3 n3 c3) zs ∧ FewP xs ys zs t ∧ Rd1 w.heap.size w' (.slice a1' n1' c1') xs' ∧ Rd1 w.heap.size w' (.slice a2' n2' c2') ys' ∧ Rd1 w.heap.size w' (.slice a3' n3' c3') zs' ∧ FewP xs' ys' zs' t' ∧ Below w.heap.size w w'
def StrDrawn (w : World) (e : Ending) (w' : World) : Prop := ∃ s : ByteArray, e = .returned (.string s) ∧ s.size ≤ 1048576 ∧ Below w.heap.size w w'
theorem fmt_few {bo : Bool} {xs ys zs : List ByteArray} {t : ByteArray} (h : FewP xs ys zs t) : (fmtP ⟨bo, xs, ys, zs, t⟩).size ≤ 1048576 := by
  have h1 := sum_few xs h.s1; have h2 := sum_few ys h.s2; have h3 := sum_few zs h.s3
  have k1 := h.n1; have k2 := h.n2; have k3 := h.n3; have k4 := h.s4
  by_cases e : (⟨bo, xs, ys, zs, t⟩ : Pol).set = true ∧ isPol ⟨bo, xs, ys, zs, t⟩ = true
  · rw [← size_list, fmtP_list e.1 e.2]
    have hn : (nonL t).length ≤ 7 + t.size := by
      unfold nonL
      split
      · simp
      · rw [List.length_append, size_list]; exact Nat.le_refl _
    have l1 := hostsL_len xs; have l2 := hostsL_len ys; have l3 := hostsL_len zs
    have m1 : kScr.data.toList.length = 6 := rfl
    have m2 : kSty.data.toList.length = 5 := rfl
    have m3 : kImg.data.toList.length = 3 := rfl
    simp only [List.length_append, List.length_cons, m1, m2, m3, l1, l2, l3]
    omega
  · rw [fmtP_no e]; exact Nat.zero_le _
theorem Rd1.readP {lo : Nat} {w : World} {v1 v2 v3 : Value} {xs ys zs : List ByteArray} (h1 : Rd1 lo w v1 xs) (h2 : Rd1 lo w v2 ys) (h3 : Rd1 lo w v3 zs) (b : Bool) (t : ByteArray) : ReadP w.heap.size w v1 v2 v3 ⟨b, xs, ys, zs, t⟩ := ⟨h1.1, h2.1, h3.1⟩

end Go.Proofs.YtkjjiinccljhjaaGreatDoor
namespace Go.Proofs.YtkjjiinccljhjaaGreatDoor
open Go.ChangeShapes Go.WideShapes Go.ChangeAt Go.RowKit

abbrev Ad := ByteArray × ByteArray
def isAd (a : Ad) : Bool := isNm a.1 && isNm a.2
def slash : ByteArray := ⟨#[47]⟩
def fmtA (a : Ad) : ByteArray := if isAd a = true then a.1 ++ slash ++ a.2 else ⟨#[]⟩
theorem isAd_no1 {a : Ad} (h : isNm a.1 = false) : isAd a = false := by unfold isAd; rw [h, Bool.false_and]
theorem isAd_1 {a : Ad} (h : isNm a.1 = true) : isAd a = isNm a.2 := by unfold isAd; rw [h, Bool.true_and]
theorem isNm_size {s : ByteArray} (h : isNm s = true) : 1 ≤ s.size ∧ s.size ≤ 8 := by
  unfold isNm at h
  exact of_decide_eq_true (Bool.and_eq_true_iff.1 h).1
theorem isAd_size {a : Ad} (h : isAd a = true) : (1 ≤ a.1.size ∧ a.1.size ≤ 8) ∧ 1 ≤ a.2.size ∧ a.2.size ≤ 8 := by
  unfold isAd at h
  have := Bool.and_eq_true_iff.1 h
  exact ⟨isNm_size this.1, isNm_size this.2⟩

set_option maxHeartbeats 1000000 in
theorem isAd_impl (h p : ByteArray) (h1 : h.size ≤ 9223372036854775807) (h2 : p.size ≤ 9223372036854775807) (w : World) :
    Calls Tryz.prog 141 #[.agg #[.string h, .string p]] w fun e w' => e = .returned (.bool (isAd (h, p))) ∧ Below w.heap.size w w' := by
  have HB := Lib.hid ((Below.refl w.heap.size w).alloc (Nat.le_refl _) (.cells #[.string h, .string p] 28))
  by_cases e1 : isNm h = true
  · have HI := Lib.hid (isAd_1 (a := (h, p)) e1)
    go_enter Tryz.func141, Tryz.ntmps141
    go_wp2_with fail
    refine (nm_impl h h1 _).mono ?_
    rintro e w' ⟨rfl, rfl⟩
    go_wp2_with fail
    refine (nm_impl p h2 _).mono ?_
    rintro e w' ⟨rfl, rfl⟩
    go_wp2_with fail
    go_ret
    exact ⟨ret_b HI.out.symm, HB.out⟩
  · have e1 : isNm h = false := Bool.eq_false_iff.2 e1
    have HI := Lib.hid (isAd_no1 (a := (h, p)) e1)
    go_enter Tryz.func141, Tryz.ntmps141
    go_wp2_with fail
    refine (nm_impl h h1 _).mono ?_
    rintro e w' ⟨rfl, rfl⟩
    go_wp2_with fail
    go_ret
    exact ⟨ret_b HI.out.symm, HB.out⟩

set_option maxHeartbeats 1000000 in
theorem isAd_spec (h p : ByteArray) (h1 : h.size ≤ 9223372036854775807) (h2 : p.size ≤ 9223372036854775807) (w : World) :
    Calls Tryz.prog 146 #[.agg #[.string h, .string p]] w fun e w' => e = .returned (.bool (isAd (h, p))) ∧ Below w.heap.size w w' := by
  have HB := Lib.hid ((Below.refl w.heap.size w).alloc (Nat.le_refl _) (.cells #[.string h, .string p] 28))
  by_cases e1 : isNm h = true
  · have HI := Lib.hid (isAd_1 (a := (h, p)) e1)
    go_enter Tryz.func146, Tryz.ntmps146
    go_wp2_with fail
    refine (nm_spec h h1 _).mono ?_
    rintro e w' ⟨rfl, rfl⟩
    go_wp2_with fail
    refine (nm_spec p h2 _).mono ?_
    rintro e w' ⟨rfl, rfl⟩
    go_wp2_with fail
    go_ret
    exact ⟨ret_b HI.out.symm, HB.out⟩
  · have e1 : isNm h = false := Bool.eq_false_iff.2 e1
    have HI := Lib.hid (isAd_no1 (a := (h, p)) e1)
    go_enter Tryz.func146, Tryz.ntmps146
    go_wp2_with fail
    refine (nm_spec h h1 _).mono ?_
    rintro e w' ⟨rfl, rfl⟩
    go_wp2_with fail
    go_ret
    exact ⟨ret_b HI.out.symm, HB.out⟩

theorem fmtA_yes {a : Ad} (h : isAd a = true) : fmtA a = a.1 ++ slash ++ a.2 := by unfold fmtA; rw [if_pos h]
theorem fmtA_no {a : Ad} (h : isAd a = false) : fmtA a = ⟨#[]⟩ := by unfold fmtA; rw [if_neg (by rw [h]; exact Bool.false_ne_true)]
theorem ret_s {a b : ByteArray} (h : a = b) : Ending.returned (.string a) = .returned (.string b) := by rw [h]

end Go.Proofs.YtkjjiinccljhjaaGreatDoor
namespace Go.Proofs.YtkjjiinccljhjaaGreatDoor
open Go.ChangeShapes Go.WideShapes Go.ChangeAt Go.RowKit

/-- Where the first slash stands. -/
def slashAt : List UInt8 → Option Nat
  | [] => none
  | b :: l => if b = 47 then some 0 else (slashAt l).map (· + 1)
theorem index_slash_eq (l : List UInt8) : Lib.indexByte l 47 = match slashAt l with | none => -1 | some i => (i : Int) := by
  induction l with
  | nil => rfl
  | cons b l ih =>
    unfold Lib.indexByte slashAt
    by_cases h : b = 47
    · rw [if_pos (by simpa using h), if_pos h]; rfl
    · rw [if_neg (by simpa using h), if_neg h, ih]
      cases slashAt l with
      | none => rfl
      | some i =>
        simp only [Option.map_some]
        rw [if_neg (by simp)]
        rfl
theorem slashAt_some {l : List UInt8} {i : Nat} (h : slashAt l = some i) : i < l.length ∧ l[i]? = some 47 ∧ ∀ j, j < i → l[j]? ≠ some 47 := by
  induction l generalizing i with
  | nil => cases h
  | cons b l ih =>
    unfold slashAt at h
    by_cases e : b = 47
    · rw [if_pos e] at h; cases h
      exact ⟨by simp, by simp [e], fun j hj => absurd hj (Nat.not_lt_zero _)⟩
    · rw [if_neg e] at h
      cases hs : slashAt l with
      | none => rw [hs] at h; cases h
      | some k =>
        rw [hs] at h
        simp only [Option.map_some, Option.some.injEq] at h
        subst h
        obtain ⟨h1, h2, h3⟩ := ih hs
        refine ⟨by simp; omega, by simpa using h2, fun j hj => ?_⟩
        cases j with
        | zero => simp [e]
        | succ j => simpa using h3 j (by omega)
theorem slashAt_none {l : List UInt8} (h : slashAt l = none) : ∀ j : Nat, l[j]? ≠ some 47 := by
  induction l with
  | nil => simp
  | cons b l ih =>
    unfold slashAt at h
    by_cases e : b = 47
    · rw [if_pos e] at h; cases h
    · rw [if_neg e] at h
      intro j
      cases j with
      | zero => simp [e]
      | succ j => simpa using ih (by simpa using h) j
theorem slashAt_of_first {l : List UInt8} {i : Nat} (h1 : l[i]? = some 47) (h2 : ∀ j, j < i → l[j]? ≠ some 47) : slashAt l = some i := by
  cases h : slashAt l with
  | none => exact absurd h1 (slashAt_none h i)
  | some k =>
    obtain ⟨h3, h4, h5⟩ := slashAt_some h
    rcases Nat.lt_trichotomy i k with c | c | c
    · exact absurd h1 (h5 i c)
    · rw [c]
    · exact absurd h4 (h2 k c)
theorem slashAt_of_none {l : List UInt8} (h : ∀ j : Nat, l[j]? ≠ some 47) : slashAt l = none := by
  cases hs : slashAt l with
  | none => rfl
  | some k => exact absurd (slashAt_some hs).2.1 (h k)

set_option maxRecDepth 100000 in
theorem idxByte_any (s : ByteArray) (c : Int) (w : World) :
    Calls Tryz.prog 243 #[.string s, .int .u8 c] w fun e w' => e = .returned (.int .i64 (Lib.indexByte s.data.toList c.toNat.toUInt8)) ∧ w = w' := by
  go_enter Tryz.func243, Tryz.ntmps243
  go_wp2
  rw [run_callFunc_extern Tryz.func257 (by kernel_rfl) (by kernel_rfl) (by kernel_rfl) (e := Extern.BytealgIndexByte.indexByte) (by kernel_rfl), Lib.run_indexByteString]
  simp only [Result.andThen]
  rw [Oper.upon_value]
  go_wp2
  go_ret
  exact ⟨rfl, rfl⟩

set_option maxRecDepth 100000 in
theorem index_slash (s : ByteArray) (w : World) :
    Calls Tryz.prog 225 #[.string s, .string ⟨#[47]⟩] w fun e w' => e = .returned (.int .i64 (Lib.indexByte s.data.toList 47)) ∧ w = w' := by
  by_cases hs : ([47] == s.toList) = true
  · have e1 : s.data.toList = [47] := by
      rw [ByteArray.toList_eq] at hs
      exact (eq_of_beq hs).symm
    rw [e1]
    go_enter Tryz.func225, Tryz.ntmps225
    go_wp2_with fail
    go_ret
    exact ⟨rfl, rfl⟩
  · have hs : ([47] == s.toList) = false := Bool.eq_false_iff.2 hs
    go_enter Tryz.func225, Tryz.ntmps225
    go_wp2_with fail
    refine (idxByte_any s _ _).mono ?_
    rintro e w' ⟨rfl, rfl⟩
    go_wp2_with fail
    go_ret
    exact ⟨rfl, rfl⟩

/-- What Cut returns at "/". -/
def cutV (s : ByteArray) : Value := match slashAt s.data.toList with
  | none => .tuple #[.string s, .string ⟨#[]⟩, .bool false]
  | some i => .tuple #[.string (s.extract 0 i), .string (s.extract (i + 1) s.size), .bool true]

set_option maxRecDepth 100000 in
set_option maxHeartbeats 1000000 in
theorem lcut_any (s : ByteArray) (hs : s.size ≤ 4611686018427387904) (w : World) :
    Calls Tryz.prog 208 #[.string s, .string ⟨#[47]⟩] w fun e w' => e = .returned (cutV s) ∧ ∃ n, w' = w.drewN n := by
  have hix := index_slash_eq s.data.toList
  cases hsl : slashAt s.data.toList with
  | none =>
    have HV := Lib.hid (show cutV s = _ from by unfold cutV; rw [hsl])
    rw [hsl] at hix
    simp only at hix
    have HI := Lib.hid hix
    clear hix hsl
    go_enter Tryz.func208, Tryz.ntmps208
    go_wp2_with fail
    refine (index_slash s _).mono ?_
    rintro e w' ⟨rfl, rfl⟩
    rw [HI.out]
    go_wp2_with fail
    go_ret3
    exact ⟨by rw [HV.out]; rfl, 0, rfl⟩
  | some i =>
    have HV := Lib.hid (show cutV s = _ from by unfold cutV; rw [hsl])
    obtain ⟨h1, _, _⟩ := slashAt_some hsl
    rw [Array.length_toList] at h1
    have h1 : i < s.size := h1
    rw [hsl] at hix
    simp only at hix
    have HI := Lib.hid hix
    clear hix hsl
    have c1 : (0 : Int) ≤ ↑i := by omega
    have c2 : (↑i : Int) ≤ ↑s.size := by omega
    have c3 : (0 : Int) ≤ ↑i + 1 := by omega
    have c4 : (↑i + 1 : Int) ≤ ↑s.size := by omega
    go_enter Tryz.func208, Tryz.ntmps208
    go_wp2_with fail
    refine (index_slash s _).mono ?_
    rintro e w' ⟨rfl, rfl⟩
    rw [HI.out]
    go_wp2_with fail
    go_quiet (fail)
    go_wp2
    go_ret3
    exact ⟨by rw [HV.out]; rfl, _, rfl⟩

set_option maxRecDepth 100000 in
set_option maxHeartbeats 1000000 in
theorem cut_any (s : ByteArray) (hs : s.size ≤ 4611686018427387904) (w : World) :
    Calls Tryz.prog 183 #[.string s, .string ⟨#[47]⟩] w fun e w' => e = .returned (cutV s) ∧ ∃ n, w' = w.drewN n := by
  have hcon := lcut_any s hs
  have HV := Lib.hid (show cutV s = cutV s from rfl)
  have : ∃ a b c, cutV s = .tuple #[.string a, .string b, .bool c] := by
    unfold cutV; split <;> exact ⟨_, _, _, rfl⟩
  obtain ⟨a, b, c, hv⟩ := this
  rw [hv] at hcon ⊢
  clear hv HV
  have HC := Lib.hid hcon; clear hcon
  go_enter Tryz.func183, Tryz.ntmps183
  go_wp2_with fail
  refine (HC.out _).mono ?_
  rintro e w' ⟨rfl, n, rfl⟩
  go_wp2_with fail
  go_ret3
  exact ⟨rfl, n, rfl⟩

end Go.Proofs.YtkjjiinccljhjaaGreatDoor
namespace Go.Proofs.YtkjjiinccljhjaaGreatDoor
open Go.ChangeShapes Go.WideShapes Go.ChangeAt Go.RowKit

/-- The two parts of a text: by the first slash, or the base and the whole. -/
def parts (s base : ByteArray) : Ad := match slashAt s.data.toList with
  | none => (base, s)
  | some i => (s.extract 0 i, s.extract (i + 1) s.size)
def prsA (s base : ByteArray) : Ad × Bool := if isAd (parts s base) = true then (parts s base, true) else ((⟨#[]⟩, ⟨#[]⟩), false)
def prsV (r : Ad × Bool) : Value := .tuple #[.agg #[.string r.1.1, .string r.1.2], .bool r.2]
theorem prsA_yes {s base : ByteArray} {h p : ByteArray} (hp : parts s base = (h, p)) (h1 : isAd (h, p) = true) : prsV (prsA s base) = .tuple #[.agg #[.string h, .string p], .bool true] := by
  unfold prsA; rw [hp, if_pos h1]; rfl
theorem prsA_no {s base : ByteArray} {h p : ByteArray} (hp : parts s base = (h, p)) (h1 : isAd (h, p) = false) : prsV (prsA s base) = .tuple #[.agg #[.string ⟨#[]⟩, .string ⟨#[]⟩], .bool false] := by
  unfold prsA; rw [hp, if_neg (by rw [h1]; exact Bool.false_ne_true)]; rfl
theorem parts_none {s base : ByteArray} (h : slashAt s.data.toList = none) : parts s base = (base, s) := by unfold parts; rw [h]
theorem parts_some {s base : ByteArray} {i : Nat} (h : slashAt s.data.toList = some i) : parts s base = (s.extract 0 i, s.extract (i + 1) s.size) := by unfold parts; rw [h]
theorem extract_le (s : ByteArray) (a b : Nat) : (s.extract a b).size ≤ s.size := by
  rw [ByteArray.size_extract]; omega
theorem parts_size {s base h p : ByteArray} (hp : parts s base = (h, p)) (hs : s.size ≤ 4611686018427387904) (hb : base.size ≤ 4611686018427387904) : h.size ≤ 4611686018427387904 ∧ p.size ≤ 4611686018427387904 := by
  unfold parts at hp
  split at hp <;> cases hp
  · exact ⟨hb, hs⟩
  · have h1 := extract_le s 0 ‹_›
    have h2 := extract_le s (‹_› + 1) s.size
    omega
theorem cutV_none {s : ByteArray} (h : slashAt s.data.toList = none) : cutV s = .tuple #[.string s, .string ⟨#[]⟩, .bool false] := by unfold cutV; rw [h]
theorem cutV_some {s : ByteArray} {i : Nat} (h : slashAt s.data.toList = some i) : cutV s = .tuple #[.string (s.extract 0 i), .string (s.extract (i + 1) s.size), .bool true] := by unfold cutV; rw [h]

/-- Two cells of one block, both stored. -/
theorem heap_two {w : World} {b : Nat} {x y u v : Value} {T : TypeId} (h : w.heap[b]? = some (.cells #[x, y] T (0, 0))) : ((w.setCell ⟨b, 0, none⟩ u).setCell ⟨b, 1, none⟩ v).heap[b]? = some (.cells #[u, v] T (0, 0)) := by
  have h1 : (w.setCell ⟨b, 0, none⟩ u).heap[b]? = some (.cells #[u, y] T (0, 0)) := by rw [heap_setCell_same w b 0 _ T u h]; rfl
  rw [heap_setCell_same _ b 1 _ T v h1]; rfl
theorem cells_two {w : World} {b : Nat} {u v : Value} {T : TypeId} (h : w.heap[b]? = some (.cells #[u, v] T (0, 0))) : w.cell? ⟨b, 0, none⟩ = some u ∧ w.cell? ⟨b, 1, none⟩ = some v ∧ w.frozen? ⟨b, 0, none⟩ = false ∧ w.frozen? ⟨b, 1, none⟩ = false := by
  refine ⟨?_, ?_, ?_, ?_⟩
  · unfold World.cell?; rw [h]; rfl
  · unfold World.cell?; rw [h]; rfl
  · unfold World.frozen?; rw [h]; rfl
  · unfold World.frozen?; rw [h]; rfl

/-- Two new blocks, and draws between: what lies behind a call that writes nothing old. -/
theorem two_new (w : World) (o1 o2 : Obj) (n : Nat) {w2 : World} (hb : Below (((w.alloc o1).drewN n).alloc o2).heap.size (((w.alloc o1).drewN n).alloc o2) w2) :
    w2.heap[w.heap.size]? = some o1 ∧ w2.heap[w.heap.size + 1]? = some o2 ∧ Below w.heap.size w w2 ∧ w.heap.size + 2 ≤ w2.heap.size := by
  have s1 : (w.alloc o1).heap.size = w.heap.size + 1 := by show (w.heap.push _).size = _; simp
  have s2 : (((w.alloc o1).drewN n).alloc o2).heap.size = w.heap.size + 2 := by
    show (((w.alloc o1).heap.push o2)).size = _
    rw [Array.size_push, s1]
  have k0 : (((w.alloc o1).drewN n).alloc o2).heap[w.heap.size]? = some o1 := by
    rw [Below.heap_alloc ((w.alloc o1).drewN n) o2 w.heap.size (by show _ < (w.alloc o1).heap.size; omega)]
    exact heap_alloc_new w o1
  have k1 : (((w.alloc o1).drewN n).alloc o2).heap[w.heap.size + 1]? = some o2 := by
    have h := heap_alloc_new ((w.alloc o1).drewN n) o2
    rw [show ((w.alloc o1).drewN n).heap.size = w.heap.size + 1 from s1] at h
    exact h
  rw [s2] at hb
  refine ⟨by rw [hb.block _ (by omega)]; exact k0, by rw [hb.block _ (by omega)]; exact k1, ?_, by have := hb.size; omega⟩
  have h1 : Below w.heap.size w (((w.alloc o1).drewN n).alloc o2) :=
    (Below.trans ((Below.refl w.heap.size w).alloc (Nat.le_refl _) o1) (⟨rfl, rfl, rfl, Nat.le_refl _, fun _ _ => rfl⟩ : Below w.heap.size (w.alloc o1) ((w.alloc o1).drewN n))).alloc (by show _ ≤ (w.alloc o1).heap.size; omega) o2
  exact h1.trans (hb.mono (by omega))
/-- A block from B on is written. -/
theorem below_two {B : Nat} {w w2 : World} (h : Below B w w2) {b : Nat} (hb : B ≤ b) (u v : Value) : Below B w ((w2.setCell ⟨b, 0, none⟩ u).setCell ⟨b, 1, none⟩ v) :=
  (h.setCell hb _).setCell hb _

def noSl (s : ByteArray) (k : Nat) : Prop := ∀ j : Nat, j < k → s.data.toList[j]? ≠ some 47
theorem noSl.succ {s : ByteArray} {k : Nat} (h : noSl s k) (hk : k < s.size) (h1 : s[k] ≠ 47) : noSl s (k + 1) := by
  intro j hj
  by_cases e : j = k
  · subst e; rw [get_at hk]; simpa using h1
  · exact h j (by omega)
theorem noSl.none {s : ByteArray} {k : Nat} (h : noSl s k) (hk : k = s.size) : slashAt s.data.toList = .none := by
  refine slashAt_of_none fun j => ?_
  by_cases e : j < k
  · exact h j e
  · rw [List.getElem?_eq_none (by rw [Array.length_toList]; show s.size ≤ j; omega)]; simp
theorem noSl.some {s : ByteArray} {k : Nat} (h : noSl s k) (hk : k < s.size) (h1 : s[k] = 47) : slashAt s.data.toList = .some k :=
  slashAt_of_first (by rw [get_at hk, h1]) h
theorem byte47 {b : UInt8} : (b.toNat : Int) = 47 ↔ b = 47 := by
  constructor
  · intro h
    apply UInt8.toNat_inj.1
    have e : (47 : UInt8).toNat = 47 := rfl
    omega
  · intro h; subst h; rfl

theorem two_newD (w : World) (o1 o2 : Obj) (n : Nat) {w2 : World} (hb : Below (((w.alloc o1).alloc o2).drewN n).heap.size (((w.alloc o1).alloc o2).drewN n) w2) :
    w2.heap[w.heap.size]? = some o1 ∧ w2.heap[w.heap.size + 1]? = some o2 ∧ Below w.heap.size w w2 ∧ w.heap.size + 2 ≤ w2.heap.size := by
  have h0 : Below (((w.alloc o1).alloc o2).drewN n).heap.size (((w.alloc o1).drewN 0).alloc o2) (((w.alloc o1).alloc o2).drewN n) := ⟨rfl, rfl, rfl, Nat.le_refl _, fun _ _ => rfl⟩
  exact two_new w o1 o2 0 (h0.trans hb)

end Go.Proofs.YtkjjiinccljhjaaGreatDoor

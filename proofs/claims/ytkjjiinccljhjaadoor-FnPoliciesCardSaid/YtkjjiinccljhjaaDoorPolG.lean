/- Helper contracts: FormatPolicy of the model and of the program. Asked: the policy's slices read as named, its strings are not too long. -/
import Derived.Test.YtkjjiinccljhjaaDoorPolW
import Derived.Deep.CutRange
namespace Go.Proofs.YtkjjiinccljhjaaDoor
open Go.ChangeShapes Go.WideShapes Go.ChangeAt Go.RowKit

set_option maxRecDepth 100000 in
set_option maxHeartbeats 8000000 in
theorem fmtPol_spec (set : Bool) (scr sty img : List ByteArray) (non : ByteArray) (a1 : Option Addr) (n1 c1 : Nat) (a2 : Option Addr) (n2 c2 : Nat) (a3 : Option Addr) (n3 c3 : Nat) (hz : PolSm ⟨set, scr, sty, img, non⟩) (w : World) (hr : ReadP w.heap.size w (.slice a1 n1 c1) (.slice a2 n2 c2) (.slice a3 n3 c3) ⟨set, scr, sty, img, non⟩) :
    Calls Tryd.prog 28 #[.agg #[.bool set, .slice a1 n1 c1, .slice a2 n2 c2, .slice a3 n3 c3, .string non]] w fun e w' => e = .returned (.string (fmtP ⟨set, scr, sty, img, non⟩)) ∧ Below w.heap.size w w' := by
  obtain ⟨z1, z2, z3, z4⟩ := id hz
  cases set with
  | false =>
    obtain ⟨W, hW⟩ : ∃ W, w.alloc (.cells #[.bool false, .slice a1 n1 c1, .slice a2 n2 c2, .slice a3 n3 c3, .string non] 26) = W := ⟨_, rfl⟩
    have HG := Lib.hid (show Grw w W by rw [← hW]; exact (Grw.refl w).alloc _)
    have q0 : W.cell? ⟨w.heap.size, 0, none⟩ = some (.bool false) := by rw [← hW]; simp
    have q1 : W.cell? ⟨w.heap.size, 1, none⟩ = some (.slice a1 n1 c1) := by rw [← hW]; simp
    have q2 : W.cell? ⟨w.heap.size, 2, none⟩ = some (.slice a2 n2 c2) := by rw [← hW]; simp
    have q3 : W.cell? ⟨w.heap.size, 3, none⟩ = some (.slice a3 n3 c3) := by rw [← hW]; simp
    have q4 : W.cell? ⟨w.heap.size, 4, none⟩ = some (.string non) := by rw [← hW]; simp
    obtain ⟨hr1, hr2, hr3⟩ := (hr.below HG.out.below (Nat.le_refl _)).mono HG.out.below.size
    have HR1 := Lib.hid hr1; have HR2 := Lib.hid hr2; have HR3 := Lib.hid hr3; clear hr hr1 hr2 hr3
    have HI := Lib.hid (isPol_spec false scr sty img non a1 n1 c1 a2 n2 c2 a3 n3 c3 hz W ⟨HR1.out, HR2.out, HR3.out⟩)
    have HV := Lib.hid (fmtP_no (p := ⟨false, scr, sty, img, non⟩) (by rintro ⟨h, _⟩; cases h))
    clear z1 z2 z3 z4 hz
    cases hp : isPol ⟨false, scr, sty, img, non⟩ with
    | false =>
      rw [hp] at HI
      clear hp
      go_enter Tryd.func28, Tryd.ntmps28
      go_wp2_with fail
      refine HI.out.mono ?_
      rintro e w1 ⟨rfl, hg⟩
      replace q0 := (hg.below.cell (show (⟨w.heap.size, 0, none⟩ : Addr).block < _ from World.block_lt_of_cell? _ _ q0)).trans q0
      replace q1 := (hg.below.cell (show (⟨w.heap.size, 1, none⟩ : Addr).block < _ from World.block_lt_of_cell? _ _ q1)).trans q1
      replace q2 := (hg.below.cell (show (⟨w.heap.size, 2, none⟩ : Addr).block < _ from World.block_lt_of_cell? _ _ q2)).trans q2
      replace q3 := (hg.below.cell (show (⟨w.heap.size, 3, none⟩ : Addr).block < _ from World.block_lt_of_cell? _ _ q3)).trans q3
      replace q4 := (hg.below.cell (show (⟨w.heap.size, 4, none⟩ : Addr).block < _ from World.block_lt_of_cell? _ _ q4)).trans q4
      replace HR1 := Lib.hid ((HR1.out.below hg.below (Nat.le_refl _)).mono hg.below.size)
      replace HR2 := Lib.hid ((HR2.out.below hg.below (Nat.le_refl _)).mono hg.below.size)
      replace HR3 := Lib.hid ((HR3.out.below hg.below (Nat.le_refl _)).mono hg.below.size)
      replace HG := Lib.hid (HG.out.trans hg); clear hg
      go_wp2_with fail
      go_ret
      exact ⟨by rw [HV.out]; rfl, HG.out.below⟩
    | true =>
      rw [hp] at HI
      clear hp
      go_enter Tryd.func28, Tryd.ntmps28
      go_wp2_with fail
      refine HI.out.mono ?_
      rintro e w1 ⟨rfl, hg⟩
      replace q0 := (hg.below.cell (show (⟨w.heap.size, 0, none⟩ : Addr).block < _ from World.block_lt_of_cell? _ _ q0)).trans q0
      replace q1 := (hg.below.cell (show (⟨w.heap.size, 1, none⟩ : Addr).block < _ from World.block_lt_of_cell? _ _ q1)).trans q1
      replace q2 := (hg.below.cell (show (⟨w.heap.size, 2, none⟩ : Addr).block < _ from World.block_lt_of_cell? _ _ q2)).trans q2
      replace q3 := (hg.below.cell (show (⟨w.heap.size, 3, none⟩ : Addr).block < _ from World.block_lt_of_cell? _ _ q3)).trans q3
      replace q4 := (hg.below.cell (show (⟨w.heap.size, 4, none⟩ : Addr).block < _ from World.block_lt_of_cell? _ _ q4)).trans q4
      replace HR1 := Lib.hid ((HR1.out.below hg.below (Nat.le_refl _)).mono hg.below.size)
      replace HR2 := Lib.hid ((HR2.out.below hg.below (Nat.le_refl _)).mono hg.below.size)
      replace HR3 := Lib.hid ((HR3.out.below hg.below (Nat.le_refl _)).mono hg.below.size)
      replace HG := Lib.hid (HG.out.trans hg); clear hg
      go_wp2_with fail
      go_ret
      exact ⟨by rw [HV.out]; rfl, HG.out.below⟩
  | true =>
    obtain ⟨W, hW⟩ : ∃ W, w.alloc (.cells #[.bool true, .slice a1 n1 c1, .slice a2 n2 c2, .slice a3 n3 c3, .string non] 26) = W := ⟨_, rfl⟩
    have HG := Lib.hid (show Grw w W by rw [← hW]; exact (Grw.refl w).alloc _)
    have q0 : W.cell? ⟨w.heap.size, 0, none⟩ = some (.bool true) := by rw [← hW]; simp
    have q1 : W.cell? ⟨w.heap.size, 1, none⟩ = some (.slice a1 n1 c1) := by rw [← hW]; simp
    have q2 : W.cell? ⟨w.heap.size, 2, none⟩ = some (.slice a2 n2 c2) := by rw [← hW]; simp
    have q3 : W.cell? ⟨w.heap.size, 3, none⟩ = some (.slice a3 n3 c3) := by rw [← hW]; simp
    have q4 : W.cell? ⟨w.heap.size, 4, none⟩ = some (.string non) := by rw [← hW]; simp
    obtain ⟨hr1, hr2, hr3⟩ := (hr.below HG.out.below (Nat.le_refl _)).mono HG.out.below.size
    have HR1 := Lib.hid hr1; have HR2 := Lib.hid hr2; have HR3 := Lib.hid hr3; clear hr hr1 hr2 hr3
    have HI := Lib.hid (isPol_spec true scr sty img non a1 n1 c1 a2 n2 c2 a3 n3 c3 hz W ⟨HR1.out, HR2.out, HR3.out⟩)
    clear hz
    cases hp : isPol ⟨true, scr, sty, img, non⟩ with
    | false =>
      rw [hp] at HI
      have HV := Lib.hid (fmtP_no (p := ⟨true, scr, sty, img, non⟩) (by rintro ⟨_, h⟩; rw [hp] at h; cases h)); clear z1 z2 z3 z4
      clear hp
      go_enter Tryd.func28, Tryd.ntmps28
      go_wp2_with fail
      refine HI.out.mono ?_
      rintro e w1 ⟨rfl, hg⟩
      replace q0 := (hg.below.cell (show (⟨w.heap.size, 0, none⟩ : Addr).block < _ from World.block_lt_of_cell? _ _ q0)).trans q0
      replace q1 := (hg.below.cell (show (⟨w.heap.size, 1, none⟩ : Addr).block < _ from World.block_lt_of_cell? _ _ q1)).trans q1
      replace q2 := (hg.below.cell (show (⟨w.heap.size, 2, none⟩ : Addr).block < _ from World.block_lt_of_cell? _ _ q2)).trans q2
      replace q3 := (hg.below.cell (show (⟨w.heap.size, 3, none⟩ : Addr).block < _ from World.block_lt_of_cell? _ _ q3)).trans q3
      replace q4 := (hg.below.cell (show (⟨w.heap.size, 4, none⟩ : Addr).block < _ from World.block_lt_of_cell? _ _ q4)).trans q4
      replace HR1 := Lib.hid ((HR1.out.below hg.below (Nat.le_refl _)).mono hg.below.size)
      replace HR2 := Lib.hid ((HR2.out.below hg.below (Nat.le_refl _)).mono hg.below.size)
      replace HR3 := Lib.hid ((HR3.out.below hg.below (Nat.le_refl _)).mono hg.below.size)
      replace HG := Lib.hid (HG.out.trans hg); clear hg
      go_wp2_with fail
      go_ret
      exact ⟨by rw [HV.out]; rfl, HG.out.below⟩
    | true =>
      rw [hp] at HI
      have HP := Lib.hid hp
      clear hp
      go_enter Tryd.func28, Tryd.ntmps28
      go_wp2_with fail
      refine HI.out.mono ?_
      rintro e w1 ⟨rfl, hg⟩
      replace q0 := (hg.below.cell (show (⟨w.heap.size, 0, none⟩ : Addr).block < _ from World.block_lt_of_cell? _ _ q0)).trans q0
      replace q1 := (hg.below.cell (show (⟨w.heap.size, 1, none⟩ : Addr).block < _ from World.block_lt_of_cell? _ _ q1)).trans q1
      replace q2 := (hg.below.cell (show (⟨w.heap.size, 2, none⟩ : Addr).block < _ from World.block_lt_of_cell? _ _ q2)).trans q2
      replace q3 := (hg.below.cell (show (⟨w.heap.size, 3, none⟩ : Addr).block < _ from World.block_lt_of_cell? _ _ q3)).trans q3
      replace q4 := (hg.below.cell (show (⟨w.heap.size, 4, none⟩ : Addr).block < _ from World.block_lt_of_cell? _ _ q4)).trans q4
      replace HR1 := Lib.hid ((HR1.out.below hg.below (Nat.le_refl _)).mono hg.below.size)
      replace HR2 := Lib.hid ((HR2.out.below hg.below (Nat.le_refl _)).mono hg.below.size)
      replace HR3 := Lib.hid ((HR3.out.below hg.below (Nat.le_refl _)).mono hg.below.size)
      replace HG := Lib.hid (HG.out.trans hg); clear hg
      have hs1 : (wordsS kScr scr).size ≤ 1048582 := by rw [wordsS_size]; have := z1; have h6 : kScr.size ≤ 6 := (by decide); omega
      have HW1 := Lib.hid (fun (X : World) (hb : Below w1.heap.size w1 X) => show Calls Tryd.prog 45 #[.string ⟨#[115, 99, 114, 105, 112, 116]⟩, .slice a1 n1 c1] X fun e w' => e = .returned (.string (wordsS kScr scr)) ∧ Below X.heap.size X w' from (words9_spec _ _ scr kScr X (HR1.out.below hb (Nat.le_refl _)) (by decide) z1).mono fun e w' h => ⟨h.1, by rw [← h.2]; exact Below.refl _ _⟩)
      have hs2 : (wordsS kSty sty).size ≤ 1048582 := by rw [wordsS_size]; have := z2; have h6 : kSty.size ≤ 6 := (by decide); omega
      have HW2 := Lib.hid (fun (X : World) (hb : Below w1.heap.size w1 X) => show Calls Tryd.prog 45 #[.string ⟨#[115, 116, 121, 108, 101]⟩, .slice a2 n2 c2] X fun e w' => e = .returned (.string (wordsS kSty sty)) ∧ Below X.heap.size X w' from (words9_spec _ _ sty kSty X (HR2.out.below hb (Nat.le_refl _)) (by decide) z2).mono fun e w' h => ⟨h.1, by rw [← h.2]; exact Below.refl _ _⟩)
      have hs3 : (wordsS kImg img).size ≤ 1048582 := by rw [wordsS_size]; have := z3; have h6 : kImg.size ≤ 6 := (by decide); omega
      have HW3 := Lib.hid (fun (X : World) (hb : Below w1.heap.size w1 X) => show Calls Tryd.prog 45 #[.string ⟨#[105, 109, 103]⟩, .slice a3 n3 c3] X fun e w' => e = .returned (.string (wordsS kImg img)) ∧ Below X.heap.size X w' from (words9_spec _ _ img kImg X (HR3.out.below hb (Nat.le_refl _)) (by decide) z3).mono fun e w' h => ⟨h.1, by rw [← h.2]; exact Below.refl _ _⟩)
      have HLS := Lib.hid (show (fmtP ⟨true, scr, sty, img, non⟩).data.toList = (wordsS kScr scr).data.toList ++ 59 :: ((wordsS kSty sty).data.toList ++ 59 :: ((wordsS kImg img).data.toList ++ nonL non)) by rw [fmtP_list rfl HP.out, wordsS_list, wordsS_list, wordsS_list])
      have hz4 : non.size ≤ 1048576 := z4
      clear z1 z2 z3 z4
      obtain ⟨X1, hX1⟩ : ∃ X, wordsS kScr scr = X := ⟨_, rfl⟩
      rw [hX1] at hs1 HW1 HLS
      clear hX1
      obtain ⟨X2, hX2⟩ : ∃ X, wordsS kSty sty = X := ⟨_, rfl⟩
      rw [hX2] at hs2 HW2 HLS
      clear hX2
      obtain ⟨X3, hX3⟩ : ∃ X, wordsS kImg img = X := ⟨_, rfl⟩
      rw [hX3] at hs3 HW3 HLS
      clear hX3
      have h59 : (⟨#[59]⟩ : ByteArray).size = 1 := rfl
      obtain ⟨A1, hA1⟩ : ∃ Y, X1 ++ ⟨#[59]⟩ = Y := ⟨_, rfl⟩
      have y1 : A1.size ≤ 1048583 := by rw [← hA1, ByteArray.size_append]; omega
      have s1 : ∀ W, (Op.stringOp .add X1 ⟨#[59]⟩).run Tryd.prog W = .ok (.string A1) W := fun W => by rw [← hA1]; exact run_string_add_sum _ _ _ (by omega)
      obtain ⟨A2, hA2⟩ : ∃ Y, A1 ++ X2 = Y := ⟨_, rfl⟩
      have y2 : A2.size ≤ 2097166 := by rw [← hA2, ByteArray.size_append]; omega
      have s2 : ∀ W, (Op.stringOp .add A1 X2).run Tryd.prog W = .ok (.string A2) W := fun W => by rw [← hA2]; exact run_string_add_sum _ _ _ (by omega)
      obtain ⟨A3, hA3⟩ : ∃ Y, A2 ++ ⟨#[59]⟩ = Y := ⟨_, rfl⟩
      have y3 : A3.size ≤ 3145749 := by rw [← hA3, ByteArray.size_append]; omega
      have s3 : ∀ W, (Op.stringOp .add A2 ⟨#[59]⟩).run Tryd.prog W = .ok (.string A3) W := fun W => by rw [← hA3]; exact run_string_add_sum _ _ _ (by omega)
      obtain ⟨A4, hA4⟩ : ∃ Y, A3 ++ X3 = Y := ⟨_, rfl⟩
      have y4 : A4.size ≤ 4194332 := by rw [← hA4, ByteArray.size_append]; omega
      have s4 : ∀ W, (Op.stringOp .add A3 X3).run Tryd.prog W = .ok (.string A4) W := fun W => by rw [← hA4]; exact run_string_add_sum _ _ _ (by omega)
      have HA4 := Lib.hid (show A4.data.toList = X1.data.toList ++ 59 :: (X2.data.toList ++ 59 :: X3.data.toList) by rw [← hA4, ← hA3, ← hA2, ← hA1, append_list, append_list, append_list, append_list]; simp [List.append_assoc])
      clear hA1 hA2 hA3 hA4
      go_upto_region 3 with (fail)
      go_cut [3] from 12 to 24 (fun c wx => c = .string A4 ∧ Below w1.heap.size w1 wx)
      case first =>
        have KEEP := Lib.hid (fun (w' : World) (h : Below w1.heap.size w1 w') => show Below w1.heap.size w1 w' ∧ w'.cell? ⟨w.heap.size, 1, none⟩ = some (.slice a1 n1 c1) ∧ w'.cell? ⟨w.heap.size, 2, none⟩ = some (.slice a2 n2 c2) ∧ w'.cell? ⟨w.heap.size, 3, none⟩ = some (.slice a3 n3 c3) from ⟨h, (h.cell (show (⟨w.heap.size, 1, none⟩ : Addr).block < _ from World.block_lt_of_cell? _ _ q1)).trans q1, (h.cell (show (⟨w.heap.size, 2, none⟩ : Addr).block < _ from World.block_lt_of_cell? _ _ q2)).trans q2, (h.cell (show (⟨w.heap.size, 3, none⟩ : Addr).block < _ from World.block_lt_of_cell? _ _ q3)).trans q3⟩)
        go_region_held3 (fun w' => Below w1.heap.size w1 w' ∧ w'.cell? ⟨w.heap.size, 1, none⟩ = some (.slice a1 n1 c1) ∧ w'.cell? ⟨w.heap.size, 2, none⟩ = some (.slice a2 n2 c2) ∧ w'.cell? ⟨w.heap.size, 3, none⟩ = some (.slice a3 n3 c3)) (exact KEEP.out _ (by repeat' (first | (with_reducible exact Below.refl _ _) | (with_reducible exact hPC) | (with_reducible exact hPB) | (with_reducible exact hPA) | (with_reducible refine bl_dw ?_) | (with_reducible refine bl_aw ?_ _)))) (first | (go_at_call 45; with_reducible refine (HW1.out _ (by repeat' (first | (with_reducible exact Below.refl _ _) | (with_reducible exact hPC) | (with_reducible exact hPB) | (with_reducible exact hPA) | (with_reducible refine bl_dw ?_) | (with_reducible refine bl_aw ?_ _)))).mono ?_; rintro e wA ⟨rfl, hbA⟩; have hPA := bl_tr (show Below w1.heap.size w1 _ from (by repeat' (first | (with_reducible exact Below.refl _ _) | (with_reducible exact hPC) | (with_reducible exact hPB) | (with_reducible exact hPA) | (with_reducible refine bl_dw ?_) | (with_reducible refine bl_aw ?_ _)))) hbA) | (go_at_call 45; with_reducible refine (HW2.out _ (by repeat' (first | (with_reducible exact Below.refl _ _) | (with_reducible exact hPC) | (with_reducible exact hPB) | (with_reducible exact hPA) | (with_reducible refine bl_dw ?_) | (with_reducible refine bl_aw ?_ _)))).mono ?_; rintro e wB ⟨rfl, hbB⟩; have hPB := bl_tr (show Below w1.heap.size w1 _ from (by repeat' (first | (with_reducible exact Below.refl _ _) | (with_reducible exact hPC) | (with_reducible exact hPB) | (with_reducible exact hPA) | (with_reducible refine bl_dw ?_) | (with_reducible refine bl_aw ?_ _)))) hbB) | (go_at_call 45; with_reducible refine (HW3.out _ (by repeat' (first | (with_reducible exact Below.refl _ _) | (with_reducible exact hPC) | (with_reducible exact hPB) | (with_reducible exact hPA) | (with_reducible refine bl_dw ?_) | (with_reducible refine bl_aw ?_ _)))).mono ?_; rintro e wC ⟨rfl, hbC⟩; have hPC := bl_tr (show Below w1.heap.size w1 _ from (by repeat' (first | (with_reducible exact Below.refl _ _) | (with_reducible exact hPC) | (with_reducible exact hPB) | (with_reducible exact hPA) | (with_reducible refine bl_dw ?_) | (with_reducible refine bl_aw ?_ _)))) hbC))
        all_goals
          go_wp2_with fail
          go_meet
          exact ⟨rfl, (by repeat' (first | (with_reducible exact Below.refl _ _) | (with_reducible exact hPC) | (with_reducible exact hPB) | (with_reducible exact hPA) | (with_reducible refine bl_dw ?_) | (with_reducible refine bl_aw ?_ _)))⟩
      obtain ⟨rfl, hB⟩ := hcut
      rename World => w_2
      replace q4 := (hB.cell (show (⟨w.heap.size, 4, none⟩ : Addr).block < _ from World.block_lt_of_cell? _ _ q4)).trans q4
      have HB := Lib.hid (HG.out.below.trans (hB.mono HG.out.below.size)); clear hB q0 q1 q2 q3 s1 s2 s3 s4
      by_cases m4 : non.size = 0
      · have b4 : (non.toList == []) = true := by rw [empP_size, decide_eq_true m4]
        have b5 : (non.toList != []) = false := by rw [bne, b4]; rfl
        have HV := Lib.hid (show A4 = fmtP ⟨true, scr, sty, img, non⟩ from bytesEq (by rw [HLS.out, HA4.out]; unfold nonL; rw [if_pos m4, List.append_nil])); clear m4
        go_wp2_with fail
        go_ret
        exact ⟨by rw [← HV.out]; rfl, HB.out⟩
      · have b4 : (non.toList == []) = false := by rw [empP_size, decide_eq_false m4]
        have b5 : (non.toList != []) = true := by rw [bne, b4]; rfl
        have h7 : (⟨#[59, 110, 111, 110, 99, 101, 32]⟩ : ByteArray).size = 7 := rfl
        obtain ⟨A5, hA5⟩ : ∃ Y, A4 ++ ⟨#[59, 110, 111, 110, 99, 101, 32]⟩ = Y := ⟨_, rfl⟩
        have y5 : A5.size ≤ 9194308 := by rw [← hA5, ByteArray.size_append]; omega
        have s5 : ∀ W, (Op.stringOp .add A4 ⟨#[59, 110, 111, 110, 99, 101, 32]⟩).run Tryd.prog W = .ok (.string A5) W := fun W => by rw [← hA5]; exact run_string_add_sum _ _ _ (by omega)
        obtain ⟨A6, hA6⟩ : ∃ Y, A5 ++ non = Y := ⟨_, rfl⟩
        have s6 : ∀ W, (Op.stringOp .add A5 non).run Tryd.prog W = .ok (.string A6) W := fun W => by rw [← hA6]; exact run_string_add_sum _ _ _ (by omega)
        have HV := Lib.hid (show A6 = fmtP ⟨true, scr, sty, img, non⟩ from bytesEq (by rw [HLS.out, ← hA6, ← hA5, append_list, append_list, HA4.out]; unfold nonL; rw [if_neg m4]; simp [List.append_assoc, kNon])); clear m4 hA5 hA6
        go_wp2_with fail
        go_ret
        exact ⟨by rw [← HV.out]; rfl, HB.out⟩

set_option maxRecDepth 100000 in
set_option maxHeartbeats 8000000 in
theorem fmtPol_impl (set : Bool) (scr sty img : List ByteArray) (non : ByteArray) (a1 : Option Addr) (n1 c1 : Nat) (a2 : Option Addr) (n2 c2 : Nat) (a3 : Option Addr) (n3 c3 : Nat) (hz : PolSm ⟨set, scr, sty, img, non⟩) (w : World) (hr : ReadP w.heap.size w (.slice a1 n1 c1) (.slice a2 n2 c2) (.slice a3 n3 c3) ⟨set, scr, sty, img, non⟩) :
    Calls Tryd.prog 7 #[.agg #[.bool set, .slice a1 n1 c1, .slice a2 n2 c2, .slice a3 n3 c3, .string non]] w fun e w' => e = .returned (.string (fmtP ⟨set, scr, sty, img, non⟩)) ∧ Below w.heap.size w w' := by
  obtain ⟨z1, z2, z3, z4⟩ := id hz
  cases set with
  | false =>
    obtain ⟨W, hW⟩ : ∃ W, w.alloc (.cells #[.bool false, .slice a1 n1 c1, .slice a2 n2 c2, .slice a3 n3 c3, .string non] 26) = W := ⟨_, rfl⟩
    have HG := Lib.hid (show Grw w W by rw [← hW]; exact (Grw.refl w).alloc _)
    have q0 : W.cell? ⟨w.heap.size, 0, none⟩ = some (.bool false) := by rw [← hW]; simp
    have q1 : W.cell? ⟨w.heap.size, 1, none⟩ = some (.slice a1 n1 c1) := by rw [← hW]; simp
    have q2 : W.cell? ⟨w.heap.size, 2, none⟩ = some (.slice a2 n2 c2) := by rw [← hW]; simp
    have q3 : W.cell? ⟨w.heap.size, 3, none⟩ = some (.slice a3 n3 c3) := by rw [← hW]; simp
    have q4 : W.cell? ⟨w.heap.size, 4, none⟩ = some (.string non) := by rw [← hW]; simp
    obtain ⟨hr1, hr2, hr3⟩ := (hr.below HG.out.below (Nat.le_refl _)).mono HG.out.below.size
    have HR1 := Lib.hid hr1; have HR2 := Lib.hid hr2; have HR3 := Lib.hid hr3; clear hr hr1 hr2 hr3
    have HI := Lib.hid (isPol_impl false scr sty img non a1 n1 c1 a2 n2 c2 a3 n3 c3 hz W ⟨HR1.out, HR2.out, HR3.out⟩)
    have HV := Lib.hid (fmtP_no (p := ⟨false, scr, sty, img, non⟩) (by rintro ⟨h, _⟩; cases h))
    clear z1 z2 z3 z4 hz
    clear HI
    go_enter Tryd.func7, Tryd.ntmps7
    go_wp2_with fail
    go_ret
    exact ⟨by rw [HV.out]; rfl, HG.out.below⟩
  | true =>
    obtain ⟨W, hW⟩ : ∃ W, w.alloc (.cells #[.bool true, .slice a1 n1 c1, .slice a2 n2 c2, .slice a3 n3 c3, .string non] 26) = W := ⟨_, rfl⟩
    have HG := Lib.hid (show Grw w W by rw [← hW]; exact (Grw.refl w).alloc _)
    have q0 : W.cell? ⟨w.heap.size, 0, none⟩ = some (.bool true) := by rw [← hW]; simp
    have q1 : W.cell? ⟨w.heap.size, 1, none⟩ = some (.slice a1 n1 c1) := by rw [← hW]; simp
    have q2 : W.cell? ⟨w.heap.size, 2, none⟩ = some (.slice a2 n2 c2) := by rw [← hW]; simp
    have q3 : W.cell? ⟨w.heap.size, 3, none⟩ = some (.slice a3 n3 c3) := by rw [← hW]; simp
    have q4 : W.cell? ⟨w.heap.size, 4, none⟩ = some (.string non) := by rw [← hW]; simp
    obtain ⟨hr1, hr2, hr3⟩ := (hr.below HG.out.below (Nat.le_refl _)).mono HG.out.below.size
    have HR1 := Lib.hid hr1; have HR2 := Lib.hid hr2; have HR3 := Lib.hid hr3; clear hr hr1 hr2 hr3
    have HI := Lib.hid (isPol_impl true scr sty img non a1 n1 c1 a2 n2 c2 a3 n3 c3 hz W ⟨HR1.out, HR2.out, HR3.out⟩)
    clear hz
    cases hp : isPol ⟨true, scr, sty, img, non⟩ with
    | false =>
      rw [hp] at HI
      have HV := Lib.hid (fmtP_no (p := ⟨true, scr, sty, img, non⟩) (by rintro ⟨_, h⟩; rw [hp] at h; cases h)); clear z1 z2 z3 z4
      clear hp
      go_enter Tryd.func7, Tryd.ntmps7
      go_wp2_with fail
      refine HI.out.mono ?_
      rintro e w1 ⟨rfl, hg⟩
      replace q0 := (hg.below.cell (show (⟨w.heap.size, 0, none⟩ : Addr).block < _ from World.block_lt_of_cell? _ _ q0)).trans q0
      replace q1 := (hg.below.cell (show (⟨w.heap.size, 1, none⟩ : Addr).block < _ from World.block_lt_of_cell? _ _ q1)).trans q1
      replace q2 := (hg.below.cell (show (⟨w.heap.size, 2, none⟩ : Addr).block < _ from World.block_lt_of_cell? _ _ q2)).trans q2
      replace q3 := (hg.below.cell (show (⟨w.heap.size, 3, none⟩ : Addr).block < _ from World.block_lt_of_cell? _ _ q3)).trans q3
      replace q4 := (hg.below.cell (show (⟨w.heap.size, 4, none⟩ : Addr).block < _ from World.block_lt_of_cell? _ _ q4)).trans q4
      replace HR1 := Lib.hid ((HR1.out.below hg.below (Nat.le_refl _)).mono hg.below.size)
      replace HR2 := Lib.hid ((HR2.out.below hg.below (Nat.le_refl _)).mono hg.below.size)
      replace HR3 := Lib.hid ((HR3.out.below hg.below (Nat.le_refl _)).mono hg.below.size)
      replace HG := Lib.hid (HG.out.trans hg); clear hg
      go_wp2_with fail
      go_ret
      exact ⟨by rw [HV.out]; rfl, HG.out.below⟩
    | true =>
      rw [hp] at HI
      have HP := Lib.hid hp
      clear hp
      go_enter Tryd.func7, Tryd.ntmps7
      go_wp2_with fail
      refine HI.out.mono ?_
      rintro e w1 ⟨rfl, hg⟩
      replace q0 := (hg.below.cell (show (⟨w.heap.size, 0, none⟩ : Addr).block < _ from World.block_lt_of_cell? _ _ q0)).trans q0
      replace q1 := (hg.below.cell (show (⟨w.heap.size, 1, none⟩ : Addr).block < _ from World.block_lt_of_cell? _ _ q1)).trans q1
      replace q2 := (hg.below.cell (show (⟨w.heap.size, 2, none⟩ : Addr).block < _ from World.block_lt_of_cell? _ _ q2)).trans q2
      replace q3 := (hg.below.cell (show (⟨w.heap.size, 3, none⟩ : Addr).block < _ from World.block_lt_of_cell? _ _ q3)).trans q3
      replace q4 := (hg.below.cell (show (⟨w.heap.size, 4, none⟩ : Addr).block < _ from World.block_lt_of_cell? _ _ q4)).trans q4
      replace HR1 := Lib.hid ((HR1.out.below hg.below (Nat.le_refl _)).mono hg.below.size)
      replace HR2 := Lib.hid ((HR2.out.below hg.below (Nat.le_refl _)).mono hg.below.size)
      replace HR3 := Lib.hid ((HR3.out.below hg.below (Nat.le_refl _)).mono hg.below.size)
      replace HG := Lib.hid (HG.out.trans hg); clear hg
      have hs1 : (wordsS kScr scr).size ≤ 1048582 := by rw [wordsS_size]; have := z1; have h6 : kScr.size ≤ 6 := (by decide); omega
      have HW1 := Lib.hid (fun (X : World) (hb : Below w1.heap.size w1 X) => show Calls Tryd.prog 19 #[.string ⟨#[115, 99, 114, 105, 112, 116]⟩, .slice a1 n1 c1] X fun e w' => e = .returned (.string (wordsS kScr scr)) ∧ Below X.heap.size X w' from (formatHosts_impl _ _ scr kScr X (HR1.out.below hb (Nat.le_refl _)) hb.size (by decide) z1).mono fun e w' h => h)
      have hs2 : (wordsS kSty sty).size ≤ 1048582 := by rw [wordsS_size]; have := z2; have h6 : kSty.size ≤ 6 := (by decide); omega
      have HW2 := Lib.hid (fun (X : World) (hb : Below w1.heap.size w1 X) => show Calls Tryd.prog 19 #[.string ⟨#[115, 116, 121, 108, 101]⟩, .slice a2 n2 c2] X fun e w' => e = .returned (.string (wordsS kSty sty)) ∧ Below X.heap.size X w' from (formatHosts_impl _ _ sty kSty X (HR2.out.below hb (Nat.le_refl _)) hb.size (by decide) z2).mono fun e w' h => h)
      have hs3 : (wordsS kImg img).size ≤ 1048582 := by rw [wordsS_size]; have := z3; have h6 : kImg.size ≤ 6 := (by decide); omega
      have HW3 := Lib.hid (fun (X : World) (hb : Below w1.heap.size w1 X) => show Calls Tryd.prog 19 #[.string ⟨#[105, 109, 103]⟩, .slice a3 n3 c3] X fun e w' => e = .returned (.string (wordsS kImg img)) ∧ Below X.heap.size X w' from (formatHosts_impl _ _ img kImg X (HR3.out.below hb (Nat.le_refl _)) hb.size (by decide) z3).mono fun e w' h => h)
      have HLS := Lib.hid (show (fmtP ⟨true, scr, sty, img, non⟩).data.toList = (wordsS kScr scr).data.toList ++ 59 :: ((wordsS kSty sty).data.toList ++ 59 :: ((wordsS kImg img).data.toList ++ nonL non)) by rw [fmtP_list rfl HP.out, wordsS_list, wordsS_list, wordsS_list])
      have hz4 : non.size ≤ 1048576 := z4
      clear z1 z2 z3 z4
      obtain ⟨X1, hX1⟩ : ∃ X, wordsS kScr scr = X := ⟨_, rfl⟩
      rw [hX1] at hs1 HW1 HLS
      clear hX1
      obtain ⟨X2, hX2⟩ : ∃ X, wordsS kSty sty = X := ⟨_, rfl⟩
      rw [hX2] at hs2 HW2 HLS
      clear hX2
      obtain ⟨X3, hX3⟩ : ∃ X, wordsS kImg img = X := ⟨_, rfl⟩
      rw [hX3] at hs3 HW3 HLS
      clear hX3
      have h59 : (⟨#[59]⟩ : ByteArray).size = 1 := rfl
      obtain ⟨A1, hA1⟩ : ∃ Y, X1 ++ ⟨#[59]⟩ = Y := ⟨_, rfl⟩
      have y1 : A1.size ≤ 1048583 := by rw [← hA1, ByteArray.size_append]; omega
      have s1 : ∀ W, (Op.stringOp .add X1 ⟨#[59]⟩).run Tryd.prog W = .ok (.string A1) W := fun W => by rw [← hA1]; exact run_string_add_sum _ _ _ (by omega)
      obtain ⟨A2, hA2⟩ : ∃ Y, A1 ++ X2 = Y := ⟨_, rfl⟩
      have y2 : A2.size ≤ 2097166 := by rw [← hA2, ByteArray.size_append]; omega
      have s2 : ∀ W, (Op.stringOp .add A1 X2).run Tryd.prog W = .ok (.string A2) W := fun W => by rw [← hA2]; exact run_string_add_sum _ _ _ (by omega)
      obtain ⟨A3, hA3⟩ : ∃ Y, A2 ++ ⟨#[59]⟩ = Y := ⟨_, rfl⟩
      have y3 : A3.size ≤ 3145749 := by rw [← hA3, ByteArray.size_append]; omega
      have s3 : ∀ W, (Op.stringOp .add A2 ⟨#[59]⟩).run Tryd.prog W = .ok (.string A3) W := fun W => by rw [← hA3]; exact run_string_add_sum _ _ _ (by omega)
      obtain ⟨A4, hA4⟩ : ∃ Y, A3 ++ X3 = Y := ⟨_, rfl⟩
      have y4 : A4.size ≤ 4194332 := by rw [← hA4, ByteArray.size_append]; omega
      have s4 : ∀ W, (Op.stringOp .add A3 X3).run Tryd.prog W = .ok (.string A4) W := fun W => by rw [← hA4]; exact run_string_add_sum _ _ _ (by omega)
      have HA4 := Lib.hid (show A4.data.toList = X1.data.toList ++ 59 :: (X2.data.toList ++ 59 :: X3.data.toList) by rw [← hA4, ← hA3, ← hA2, ← hA1, append_list, append_list, append_list, append_list]; simp [List.append_assoc])
      clear hA1 hA2 hA3 hA4
      go_upto_region 3 with (fail)
      go_cut [3] from 12 to 24 (fun c wx => c = .string A4 ∧ Below w1.heap.size w1 wx)
      case first =>
        have KEEP := Lib.hid (fun (w' : World) (h : Below w1.heap.size w1 w') => show Below w1.heap.size w1 w' ∧ w'.cell? ⟨w.heap.size, 1, none⟩ = some (.slice a1 n1 c1) ∧ w'.cell? ⟨w.heap.size, 2, none⟩ = some (.slice a2 n2 c2) ∧ w'.cell? ⟨w.heap.size, 3, none⟩ = some (.slice a3 n3 c3) from ⟨h, (h.cell (show (⟨w.heap.size, 1, none⟩ : Addr).block < _ from World.block_lt_of_cell? _ _ q1)).trans q1, (h.cell (show (⟨w.heap.size, 2, none⟩ : Addr).block < _ from World.block_lt_of_cell? _ _ q2)).trans q2, (h.cell (show (⟨w.heap.size, 3, none⟩ : Addr).block < _ from World.block_lt_of_cell? _ _ q3)).trans q3⟩)
        go_region_held3 (fun w' => Below w1.heap.size w1 w' ∧ w'.cell? ⟨w.heap.size, 1, none⟩ = some (.slice a1 n1 c1) ∧ w'.cell? ⟨w.heap.size, 2, none⟩ = some (.slice a2 n2 c2) ∧ w'.cell? ⟨w.heap.size, 3, none⟩ = some (.slice a3 n3 c3)) (exact KEEP.out _ (by repeat' (first | (with_reducible exact Below.refl _ _) | (with_reducible exact hPC) | (with_reducible exact hPB) | (with_reducible exact hPA) | (with_reducible refine bl_dw ?_) | (with_reducible refine bl_aw ?_ _)))) (first | (go_at_call 19; with_reducible refine (HW1.out _ (by repeat' (first | (with_reducible exact Below.refl _ _) | (with_reducible exact hPC) | (with_reducible exact hPB) | (with_reducible exact hPA) | (with_reducible refine bl_dw ?_) | (with_reducible refine bl_aw ?_ _)))).mono ?_; rintro e wA ⟨rfl, hbA⟩; have hPA := bl_tr (show Below w1.heap.size w1 _ from (by repeat' (first | (with_reducible exact Below.refl _ _) | (with_reducible exact hPC) | (with_reducible exact hPB) | (with_reducible exact hPA) | (with_reducible refine bl_dw ?_) | (with_reducible refine bl_aw ?_ _)))) hbA) | (go_at_call 19; with_reducible refine (HW2.out _ (by repeat' (first | (with_reducible exact Below.refl _ _) | (with_reducible exact hPC) | (with_reducible exact hPB) | (with_reducible exact hPA) | (with_reducible refine bl_dw ?_) | (with_reducible refine bl_aw ?_ _)))).mono ?_; rintro e wB ⟨rfl, hbB⟩; have hPB := bl_tr (show Below w1.heap.size w1 _ from (by repeat' (first | (with_reducible exact Below.refl _ _) | (with_reducible exact hPC) | (with_reducible exact hPB) | (with_reducible exact hPA) | (with_reducible refine bl_dw ?_) | (with_reducible refine bl_aw ?_ _)))) hbB) | (go_at_call 19; with_reducible refine (HW3.out _ (by repeat' (first | (with_reducible exact Below.refl _ _) | (with_reducible exact hPC) | (with_reducible exact hPB) | (with_reducible exact hPA) | (with_reducible refine bl_dw ?_) | (with_reducible refine bl_aw ?_ _)))).mono ?_; rintro e wC ⟨rfl, hbC⟩; have hPC := bl_tr (show Below w1.heap.size w1 _ from (by repeat' (first | (with_reducible exact Below.refl _ _) | (with_reducible exact hPC) | (with_reducible exact hPB) | (with_reducible exact hPA) | (with_reducible refine bl_dw ?_) | (with_reducible refine bl_aw ?_ _)))) hbC))
        all_goals
          go_wp2_with fail
          go_meet
          exact ⟨rfl, (by repeat' (first | (with_reducible exact Below.refl _ _) | (with_reducible exact hPC) | (with_reducible exact hPB) | (with_reducible exact hPA) | (with_reducible refine bl_dw ?_) | (with_reducible refine bl_aw ?_ _)))⟩
      obtain ⟨rfl, hB⟩ := hcut
      rename World => w_2
      replace q4 := (hB.cell (show (⟨w.heap.size, 4, none⟩ : Addr).block < _ from World.block_lt_of_cell? _ _ q4)).trans q4
      have HB := Lib.hid (HG.out.below.trans (hB.mono HG.out.below.size)); clear hB q0 q1 q2 q3 s1 s2 s3 s4
      by_cases m4 : non.size = 0
      · have b4 : (non.toList == []) = true := by rw [empP_size, decide_eq_true m4]
        have b5 : (non.toList != []) = false := by rw [bne, b4]; rfl
        have HV := Lib.hid (show A4 = fmtP ⟨true, scr, sty, img, non⟩ from bytesEq (by rw [HLS.out, HA4.out]; unfold nonL; rw [if_pos m4, List.append_nil])); clear m4
        go_wp2_with fail
        go_ret
        exact ⟨by rw [← HV.out]; rfl, HB.out⟩
      · have b4 : (non.toList == []) = false := by rw [empP_size, decide_eq_false m4]
        have b5 : (non.toList != []) = true := by rw [bne, b4]; rfl
        have h7 : (⟨#[59, 110, 111, 110, 99, 101, 32]⟩ : ByteArray).size = 7 := rfl
        obtain ⟨A5, hA5⟩ : ∃ Y, ⟨#[59, 110, 111, 110, 99, 101, 32]⟩ ++ non = Y := ⟨_, rfl⟩
        have y5 : A5.size ≤ 9194308 := by rw [← hA5, ByteArray.size_append]; omega
        have s5 : ∀ W, (Op.stringOp .add ⟨#[59, 110, 111, 110, 99, 101, 32]⟩ non).run Tryd.prog W = .ok (.string A5) W := fun W => by rw [← hA5]; exact run_string_add_sum _ _ _ (by omega)
        obtain ⟨A6, hA6⟩ : ∃ Y, A4 ++ A5 = Y := ⟨_, rfl⟩
        have s6 : ∀ W, (Op.stringOp .add A4 A5).run Tryd.prog W = .ok (.string A6) W := fun W => by rw [← hA6]; exact run_string_add_sum _ _ _ (by omega)
        have HV := Lib.hid (show A6 = fmtP ⟨true, scr, sty, img, non⟩ from bytesEq (by rw [HLS.out, ← hA6, ← hA5, append_list, append_list, HA4.out]; unfold nonL; rw [if_neg m4]; simp [List.append_assoc, kNon])); clear m4 hA5 hA6
        go_wp2_with fail
        go_ret
        exact ⟨by rw [← HV.out]; rfl, HB.out⟩
end Go.Proofs.YtkjjiinccljhjaaDoor

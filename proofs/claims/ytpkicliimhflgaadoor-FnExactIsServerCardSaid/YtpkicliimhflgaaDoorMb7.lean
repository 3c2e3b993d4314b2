/- Helper contracts: FormatPolicy of the model and of the program. Asked: the policy's slices read as named, its strings are not too long. Helper contracts: ParsePolicy of the program. Asked: the text is no longer than 2^20 bytes, the library's MaxLen holds a number. Helper contracts: NarrowPolicy. Asked: the policies' slices read as named, they are not too long. -/
import Derived.Test.YtpkicliimhflgaaDoorMb6
import Derived.Deep.CutRange
namespace Go.Proofs.YtpkicliimhflgaaDoor

open Go.ChangeShapes Go.WideShapes Go.ChangeAt Go.RowKit

set_option maxRecDepth 100000 in
set_option maxHeartbeats 8000000 in
theorem fmtPol_spec (set : Bool) (scr sty img : List ByteArray) (non : ByteArray) (a1 : Option Addr) (n1 c1 : Nat) (a2 : Option Addr) (n2 c2 : Nat) (a3 : Option Addr) (n3 c3 : Nat) (hz : PolSm ⟨set, scr, sty, img, non⟩) (w : World) (hr : ReadP w.heap.size w (.slice a1 n1 c1) (.slice a2 n2 c2) (.slice a3 n3 c3) ⟨set, scr, sty, img, non⟩) :
    Calls Tryd.prog 52 #[.agg #[.bool set, .slice a1 n1 c1, .slice a2 n2 c2, .slice a3 n3 c3, .string non]] w fun e w' => e = .returned (.string (fmtP ⟨set, scr, sty, img, non⟩)) ∧ Below w.heap.size w w' := by
  obtain ⟨z1, z2, z3, z4⟩ := id hz
  cases set with
  | false =>
    obtain ⟨W, hW⟩ : ∃ W, w.alloc (.cells #[.bool false, .slice a1 n1 c1, .slice a2 n2 c2, .slice a3 n3 c3, .string non] 75) = W := ⟨_, rfl⟩
    have HG := Lib.hid (show Grw w W by rw [← hW]; exact (Grw.refl w).alloc _)
    have q0 : W.cell? ⟨w.heap.size, 0, none⟩ = some (.bool false) := by rw [← hW]; simp
    have q1 : W.cell? ⟨w.heap.size, 1, none⟩ = some (.slice a1 n1 c1) := by rw [← hW]; simp
    have q2 : W.cell? ⟨w.heap.size, 2, none⟩ = some (.slice a2 n2 c2) := by rw [← hW]; simp
    have q3 : W.cell? ⟨w.heap.size, 3, none⟩ = some (.slice a3 n3 c3) := by rw [← hW]; simp
    have q4 : W.cell? ⟨w.heap.size, 4, none⟩ = some (.string non) := by rw [← hW]; simp
    obtain ⟨hr1, hr2, hr3⟩ := (hr.below HG.out.below (Nat.le_refl _)).mono HG.out.below.size
    have HR1 := Lib.hid hr1; have HR2 := Lib.hid hr2; have HR3 := Lib.hid hr3; clear hr hr1 hr2 hr3
    have HI := Lib.hid (isPol_spec false scr sty img non a1 n1 c1 a2 n2 c2 a3 n3 c3 hz W ⟨HR1.out, HR2.out, HR3.out⟩)
    have HV := Lib.hid (fmtP_no (p := ⟨false, scr, sty, img, non⟩) (by rintro ⟨h, _⟩; cases h))
    clear z1 z2 z3 z4 hz
    cases hp : isPol ⟨false, scr, sty, img, non⟩ with
    | false =>
      rw [hp] at HI
      clear hp
      go_enter Tryd.func52, Tryd.ntmps52
      go_wp2_with fail
      refine HI.out.mono ?_
      rintro e w1 ⟨rfl, hg⟩
      replace q0 := (hg.below.cell (show (⟨w.heap.size, 0, none⟩ : Addr).block < _ from World.block_lt_of_cell? _ _ q0)).trans q0
      replace q1 := (hg.below.cell (show (⟨w.heap.size, 1, none⟩ : Addr).block < _ from World.block_lt_of_cell? _ _ q1)).trans q1
      replace q2 := (hg.below.cell (show (⟨w.heap.size, 2, none⟩ : Addr).block < _ from World.block_lt_of_cell? _ _ q2)).trans q2
      replace q3 := (hg.below.cell (show (⟨w.heap.size, 3, none⟩ : Addr).block < _ from World.block_lt_of_cell? _ _ q3)).trans q3
      replace q4 := (hg.below.cell (show (⟨w.heap.size, 4, none⟩ : Addr).block < _ from World.block_lt_of_cell? _ _ q4)).trans q4
      replace HR1 := Lib.hid ((HR1.out.below hg.below (Nat.le_refl _)).mono hg.below.size)
      replace HR2 := Lib.hid ((HR2.out.below hg.below (Nat.le_refl _)).mono hg.below.size)
      replace HR3 := Lib.hid ((HR3.out.below hg.below (Nat.le_refl _)).mono hg.below.size)
      replace HG := Lib.hid (HG.out.trans hg); clear hg
      go_wp2_with fail
      go_ret
      exact ⟨by rw [HV.out]; rfl, HG.out.below⟩
    | true =>
      rw [hp] at HI
      clear hp
      go_enter Tryd.func52, Tryd.ntmps52
      go_wp2_with fail
      refine HI.out.mono ?_
      rintro e w1 ⟨rfl, hg⟩
      replace q0 := (hg.below.cell (show (⟨w.heap.size, 0, none⟩ : Addr).block < _ from World.block_lt_of_cell? _ _ q0)).trans q0
      replace q1 := (hg.below.cell (show (⟨w.heap.size, 1, none⟩ : Addr).block < _ from World.block_lt_of_cell? _ _ q1)).trans q1
      replace q2 := (hg.below.cell (show (⟨w.heap.size, 2, none⟩ : Addr).block < _ from World.block_lt_of_cell? _ _ q2)).trans q2
      replace q3 := (hg.below.cell (show (⟨w.heap.size, 3, none⟩ : Addr).block < _ from World.block_lt_of_cell? _ _ q3)).trans q3
      replace q4 := (hg.below.cell (show (⟨w.heap.size, 4, none⟩ : Addr).block < _ from World.block_lt_of_cell? _ _ q4)).trans q4
      replace HR1 := Lib.hid ((HR1.out.below hg.below (Nat.le_refl _)).mono hg.below.size)
      replace HR2 := Lib.hid ((HR2.out.below hg.below (Nat.le_refl _)).mono hg.below.size)
      replace HR3 := Lib.hid ((HR3.out.below hg.below (Nat.le_refl _)).mono hg.below.size)
      replace HG := Lib.hid (HG.out.trans hg); clear hg
      go_wp2_with fail
      go_ret
      exact ⟨by rw [HV.out]; rfl, HG.out.below⟩
  | true =>
    obtain ⟨W, hW⟩ : ∃ W, w.alloc (.cells #[.bool true, .slice a1 n1 c1, .slice a2 n2 c2, .slice a3 n3 c3, .string non] 75) = W := ⟨_, rfl⟩
    have HG := Lib.hid (show Grw w W by rw [← hW]; exact (Grw.refl w).alloc _)
    have q0 : W.cell? ⟨w.heap.size, 0, none⟩ = some (.bool true) := by rw [← hW]; simp
    have q1 : W.cell? ⟨w.heap.size, 1, none⟩ = some (.slice a1 n1 c1) := by rw [← hW]; simp
    have q2 : W.cell? ⟨w.heap.size, 2, none⟩ = some (.slice a2 n2 c2) := by rw [← hW]; simp
    have q3 : W.cell? ⟨w.heap.size, 3, none⟩ = some (.slice a3 n3 c3) := by rw [← hW]; simp
    have q4 : W.cell? ⟨w.heap.size, 4, none⟩ = some (.string non) := by rw [← hW]; simp
    obtain ⟨hr1, hr2, hr3⟩ := (hr.below HG.out.below (Nat.le_refl _)).mono HG.out.below.size
    have HR1 := Lib.hid hr1; have HR2 := Lib.hid hr2; have HR3 := Lib.hid hr3; clear hr hr1 hr2 hr3
    have HI := Lib.hid (isPol_spec true scr sty img non a1 n1 c1 a2 n2 c2 a3 n3 c3 hz W ⟨HR1.out, HR2.out, HR3.out⟩)
    clear hz
    cases hp : isPol ⟨true, scr, sty, img, non⟩ with
    | false =>
      rw [hp] at HI
      have HV := Lib.hid (fmtP_no (p := ⟨true, scr, sty, img, non⟩) (by rintro ⟨_, h⟩; rw [hp] at h; cases h)); clear z1 z2 z3 z4
      clear hp
      go_enter Tryd.func52, Tryd.ntmps52
      go_wp2_with fail
      refine HI.out.mono ?_
      rintro e w1 ⟨rfl, hg⟩
      replace q0 := (hg.below.cell (show (⟨w.heap.size, 0, none⟩ : Addr).block < _ from World.block_lt_of_cell? _ _ q0)).trans q0
      replace q1 := (hg.below.cell (show (⟨w.heap.size, 1, none⟩ : Addr).block < _ from World.block_lt_of_cell? _ _ q1)).trans q1
      replace q2 := (hg.below.cell (show (⟨w.heap.size, 2, none⟩ : Addr).block < _ from World.block_lt_of_cell? _ _ q2)).trans q2
      replace q3 := (hg.below.cell (show (⟨w.heap.size, 3, none⟩ : Addr).block < _ from World.block_lt_of_cell? _ _ q3)).trans q3
      replace q4 := (hg.below.cell (show (⟨w.heap.size, 4, none⟩ : Addr).block < _ from World.block_lt_of_cell? _ _ q4)).trans q4
      replace HR1 := Lib.hid ((HR1.out.below hg.below (Nat.le_refl _)).mono hg.below.size)
      replace HR2 := Lib.hid ((HR2.out.below hg.below (Nat.le_refl _)).mono hg.below.size)
      replace HR3 := Lib.hid ((HR3.out.below hg.below (Nat.le_refl _)).mono hg.below.size)
      replace HG := Lib.hid (HG.out.trans hg); clear hg
      go_wp2_with fail
      go_ret
      exact ⟨by rw [HV.out]; rfl, HG.out.below⟩
    | true =>
      rw [hp] at HI
      have HP := Lib.hid hp
      clear hp
      go_enter Tryd.func52, Tryd.ntmps52
      go_wp2_with fail
      refine HI.out.mono ?_
      rintro e w1 ⟨rfl, hg⟩
      replace q0 := (hg.below.cell (show (⟨w.heap.size, 0, none⟩ : Addr).block < _ from World.block_lt_of_cell? _ _ q0)).trans q0
      replace q1 := (hg.below.cell (show (⟨w.heap.size, 1, none⟩ : Addr).block < _ from World.block_lt_of_cell? _ _ q1)).trans q1
      replace q2 := (hg.below.cell (show (⟨w.heap.size, 2, none⟩ : Addr).block < _ from World.block_lt_of_cell? _ _ q2)).trans q2
      replace q3 := (hg.below.cell (show (⟨w.heap.size, 3, none⟩ : Addr).block < _ from World.block_lt_of_cell? _ _ q3)).trans q3
      replace q4 := (hg.below.cell (show (⟨w.heap.size, 4, none⟩ : Addr).block < _ from World.block_lt_of_cell? _ _ q4)).trans q4
      replace HR1 := Lib.hid ((HR1.out.below hg.below (Nat.le_refl _)).mono hg.below.size)
      replace HR2 := Lib.hid ((HR2.out.below hg.below (Nat.le_refl _)).mono hg.below.size)
      replace HR3 := Lib.hid ((HR3.out.below hg.below (Nat.le_refl _)).mono hg.below.size)
      replace HG := Lib.hid (HG.out.trans hg); clear hg
      have hs1 : (wordsS kScr scr).size ≤ 1048582 := by rw [wordsS_size]; have := z1; have h6 : kScr.size ≤ 6 := (by decide); omega
      have HW1 := Lib.hid (fun (X : World) (hb : Below w1.heap.size w1 X) => show Calls Tryd.prog 58 #[.string ⟨#[115, 99, 114, 105, 112, 116]⟩, .slice a1 n1 c1] X fun e w' => e = .returned (.string (wordsS kScr scr)) ∧ Below X.heap.size X w' from (words9_spec _ _ scr kScr X (HR1.out.below hb (Nat.le_refl _)) (by decide) z1).mono fun e w' h => ⟨h.1, by rw [← h.2]; exact Below.refl _ _⟩)
      have hs2 : (wordsS kSty sty).size ≤ 1048582 := by rw [wordsS_size]; have := z2; have h6 : kSty.size ≤ 6 := (by decide); omega
      have HW2 := Lib.hid (fun (X : World) (hb : Below w1.heap.size w1 X) => show Calls Tryd.prog 58 #[.string ⟨#[115, 116, 121, 108, 101]⟩, .slice a2 n2 c2] X fun e w' => e = .returned (.string (wordsS kSty sty)) ∧ Below X.heap.size X w' from (words9_spec _ _ sty kSty X (HR2.out.below hb (Nat.le_refl _)) (by decide) z2).mono fun e w' h => ⟨h.1, by rw [← h.2]; exact Below.refl _ _⟩)
      have hs3 : (wordsS kImg img).size ≤ 1048582 := by rw [wordsS_size]; have := z3; have h6 : kImg.size ≤ 6 := (by decide); omega
      have HW3 := Lib.hid (fun (X : World) (hb : Below w1.heap.size w1 X) => show Calls Tryd.prog 58 #[.string ⟨#[105, 109, 103]⟩, .slice a3 n3 c3] X fun e w' => e = .returned (.string (wordsS kImg img)) ∧ Below X.heap.size X w' from (words9_spec _ _ img kImg X (HR3.out.below hb (Nat.le_refl _)) (by decide) z3).mono fun e w' h => ⟨h.1, by rw [← h.2]; exact Below.refl _ _⟩)
      have HLS := Lib.hid (show (fmtP ⟨true, scr, sty, img, non⟩).data.toList = (wordsS kScr scr).data.toList ++ 59 :: ((wordsS kSty sty).data.toList ++ 59 :: ((wordsS kImg img).data.toList ++ nonL non)) by rw [fmtP_list rfl HP.out, wordsS_list, wordsS_list, wordsS_list])
      have hz4 : non.size ≤ 1048576 := z4
      clear z1 z2 z3 z4
      obtain ⟨X1, hX1⟩ : ∃ X, wordsS kScr scr = X := ⟨_, rfl⟩
      rw [hX1] at hs1 HW1 HLS
      clear hX1
      obtain ⟨X2, hX2⟩ : ∃ X, wordsS kSty sty = X := ⟨_, rfl⟩
      rw [hX2] at hs2 HW2 HLS
      clear hX2
      obtain ⟨X3, hX3⟩ : ∃ X, wordsS kImg img = X := ⟨_, rfl⟩
      rw [hX3] at hs3 HW3 HLS
      clear hX3
      have h59 : (⟨#[59]⟩ : ByteArray).size = 1 := rfl
      obtain ⟨A1, hA1⟩ : ∃ Y, X1 ++ ⟨#[59]⟩ = Y := ⟨_, rfl⟩
      have y1 : A1.size ≤ 1048583 := by rw [← hA1, ByteArray.size_append]; omega
      have s1 : ∀ W, (Op.stringOp .add X1 ⟨#[59]⟩).run Tryd.prog W = .ok (.string A1) W := fun W => by rw [← hA1]; exact run_string_add_sum _ _ _ (by omega)
      obtain ⟨A2, hA2⟩ : ∃ Y, A1 ++ X2 = Y := ⟨_, rfl⟩
      have y2 : A2.size ≤ 2097166 := by rw [← hA2, ByteArray.size_append]; omega
      have s2 : ∀ W, (Op.stringOp .add A1 X2).run Tryd.prog W = .ok (.string A2) W := fun W => by rw [← hA2]; exact run_string_add_sum _ _ _ (by omega)
      obtain ⟨A3, hA3⟩ : ∃ Y, A2 ++ ⟨#[59]⟩ = Y := ⟨_, rfl⟩
      have y3 : A3.size ≤ 3145749 := by rw [← hA3, ByteArray.size_append]; omega
      have s3 : ∀ W, (Op.stringOp .add A2 ⟨#[59]⟩).run Tryd.prog W = .ok (.string A3) W := fun W => by rw [← hA3]; exact run_string_add_sum _ _ _ (by omega)
      obtain ⟨A4, hA4⟩ : ∃ Y, A3 ++ X3 = Y := ⟨_, rfl⟩
      have y4 : A4.size ≤ 4194332 := by rw [← hA4, ByteArray.size_append]; omega
      have s4 : ∀ W, (Op.stringOp .add A3 X3).run Tryd.prog W = .ok (.string A4) W := fun W => by rw [← hA4]; exact run_string_add_sum _ _ _ (by omega)
      have HA4 := Lib.hid (show A4.data.toList = X1.data.toList ++ 59 :: (X2.data.toList ++ 59 :: X3.data.toList) by rw [← hA4, ← hA3, ← hA2, ← hA1, append_list, append_list, append_list, append_list]; simp [List.append_assoc])
      clear hA1 hA2 hA3 hA4
      go_upto_region 3 with (fail)
      go_cut [3] from 12 to 24 (fun c wx => c = .string A4 ∧ Below w1.heap.size w1 wx)
      case first =>
        have KEEP := Lib.hid (fun (w' : World) (h : Below w1.heap.size w1 w') => show Below w1.heap.size w1 w' ∧ w'.cell? ⟨w.heap.size, 1, none⟩ = some (.slice a1 n1 c1) ∧ w'.cell? ⟨w.heap.size, 2, none⟩ = some (.slice a2 n2 c2) ∧ w'.cell? ⟨w.heap.size, 3, none⟩ = some (.slice a3 n3 c3) from ⟨h, (h.cell (show (⟨w.heap.size, 1, none⟩ : Addr).block < _ from World.block_lt_of_cell? _ _ q1)).trans q1, (h.cell (show (⟨w.heap.size, 2, none⟩ : Addr).block < _ from World.block_lt_of_cell? _ _ q2)).trans q2, (h.cell (show (⟨w.heap.size, 3, none⟩ : Addr).block < _ from World.block_lt_of_cell? _ _ q3)).trans q3⟩)
        go_region_held3 (fun w' => Below w1.heap.size w1 w' ∧ w'.cell? ⟨w.heap.size, 1, none⟩ = some (.slice a1 n1 c1) ∧ w'.cell? ⟨w.heap.size, 2, none⟩ = some (.slice a2 n2 c2) ∧ w'.cell? ⟨w.heap.size, 3, none⟩ = some (.slice a3 n3 c3)) (exact KEEP.out _ (by repeat' (first | (with_reducible exact Below.refl _ _) | (with_reducible exact hPC) | (with_reducible exact hPB) | (with_reducible exact hPA) | (with_reducible refine bl_dw ?_) | (with_reducible refine bl_aw ?_ _)))) (first | (go_at_call 58; with_reducible refine (HW1.out _ (by repeat' (first | (with_reducible exact Below.refl _ _) | (with_reducible exact hPC) | (with_reducible exact hPB) | (with_reducible exact hPA) | (with_reducible refine bl_dw ?_) | (with_reducible refine bl_aw ?_ _)))).mono ?_; rintro e wA ⟨rfl, hbA⟩; have hPA := bl_tr (show Below w1.heap.size w1 _ from (by repeat' (first | (with_reducible exact Below.refl _ _) | (with_reducible exact hPC) | (with_reducible exact hPB) | (with_reducible exact hPA) | (with_reducible refine bl_dw ?_) | (with_reducible refine bl_aw ?_ _)))) hbA) | (go_at_call 58; with_reducible refine (HW2.out _ (by repeat' (first | (with_reducible exact Below.refl _ _) | (with_reducible exact hPC) | (with_reducible exact hPB) | (with_reducible exact hPA) | (with_reducible refine bl_dw ?_) | (with_reducible refine bl_aw ?_ _)))).mono ?_; rintro e wB ⟨rfl, hbB⟩; have hPB := bl_tr (show Below w1.heap.size w1 _ from (by repeat' (first | (with_reducible exact Below.refl _ _) | (with_reducible exact hPC) | (with_reducible exact hPB) | (with_reducible exact hPA) | (with_reducible refine bl_dw ?_) | (with_reducible refine bl_aw ?_ _)))) hbB) | (go_at_call 58; with_reducible refine (HW3.out _ (by repeat' (first | (with_reducible exact Below.refl _ _) | (with_reducible exact hPC) | (with_reducible exact hPB) | (with_reducible exact hPA) | (with_reducible refine bl_dw ?_) | (with_reducible refine bl_aw ?_ _)))).mono ?_; rintro e wC ⟨rfl, hbC⟩; have hPC := bl_tr (show Below w1.heap.size w1 _ from (by repeat' (first | (with_reducible exact Below.refl _ _) | (with_reducible exact hPC) | (with_reducible exact hPB) | (with_reducible exact hPA) | (with_reducible refine bl_dw ?_) | (with_reducible refine bl_aw ?_ _)))) hbC))
        all_goals
          go_wp2_with fail
          go_meet
          exact ⟨rfl, (by repeat' (first | (with_reducible exact Below.refl _ _) | (with_reducible exact hPC) | (with_reducible exact hPB) | (with_reducible exact hPA) | (with_reducible refine bl_dw ?_) | (with_reducible refine bl_aw ?_ _)))⟩
      obtain ⟨rfl, hB⟩ := hcut
      rename World => w_2
      replace q4 := (hB.cell (show (⟨w.heap.size, 4, none⟩ : Addr).block < _ from World.block_lt_of_cell? _ _ q4)).trans q4
      have HB := Lib.hid (HG.out.below.trans (hB.mono HG.out.below.size)); clear hB q0 q1 q2 q3 s1 s2 s3 s4
      by_cases m4 : non.size = 0
      · have b4 : (non.toList == []) = true := by rw [empP_size, decide_eq_true m4]
        have b5 : (non.toList != []) = false := by rw [bne, b4]; rfl
        have HV := Lib.hid (show A4 = fmtP ⟨true, scr, sty, img, non⟩ from bytesEq (by rw [HLS.out, HA4.out]; unfold nonL; rw [if_pos m4, List.append_nil])); clear m4
        go_wp2_with fail
        go_ret
        exact ⟨by rw [← HV.out]; rfl, HB.out⟩
      · have b4 : (non.toList == []) = false := by rw [empP_size, decide_eq_false m4]
        have b5 : (non.toList != []) = true := by rw [bne, b4]; rfl
        have h7 : (⟨#[59, 110, 111, 110, 99, 101, 32]⟩ : ByteArray).size = 7 := rfl
        obtain ⟨A5, hA5⟩ : ∃ Y, A4 ++ ⟨#[59, 110, 111, 110, 99, 101, 32]⟩ = Y := ⟨_, rfl⟩
        have y5 : A5.size ≤ 9194308 := by rw [← hA5, ByteArray.size_append]; omega
        have s5 : ∀ W, (Op.stringOp .add A4 ⟨#[59, 110, 111, 110, 99, 101, 32]⟩).run Tryd.prog W = .ok (.string A5) W := fun W => by rw [← hA5]; exact run_string_add_sum _ _ _ (by omega)
        obtain ⟨A6, hA6⟩ : ∃ Y, A5 ++ non = Y := ⟨_, rfl⟩
        have s6 : ∀ W, (Op.stringOp .add A5 non).run Tryd.prog W = .ok (.string A6) W := fun W => by rw [← hA6]; exact run_string_add_sum _ _ _ (by omega)
        have HV := Lib.hid (show A6 = fmtP ⟨true, scr, sty, img, non⟩ from bytesEq (by rw [HLS.out, ← hA6, ← hA5, append_list, append_list, HA4.out]; unfold nonL; rw [if_neg m4]; simp [List.append_assoc, kNon])); clear m4 hA5 hA6
        go_wp2_with fail
        go_ret
        exact ⟨by rw [← HV.out]; rfl, HB.out⟩

set_option maxRecDepth 100000 in
set_option maxHeartbeats 8000000 in
theorem fmtPol_impl (set : Bool) (scr sty img : List ByteArray) (non : ByteArray) (a1 : Option Addr) (n1 c1 : Nat) (a2 : Option Addr) (n2 c2 : Nat) (a3 : Option Addr) (n3 c3 : Nat) (hz : PolSm ⟨set, scr, sty, img, non⟩) (w : World) (hr : ReadP w.heap.size w (.slice a1 n1 c1) (.slice a2 n2 c2) (.slice a3 n3 c3) ⟨set, scr, sty, img, non⟩) :
    Calls Tryd.prog 60 #[.agg #[.bool set, .slice a1 n1 c1, .slice a2 n2 c2, .slice a3 n3 c3, .string non]] w fun e w' => e = .returned (.string (fmtP ⟨set, scr, sty, img, non⟩)) ∧ Below w.heap.size w w' := by
  obtain ⟨z1, z2, z3, z4⟩ := id hz
  cases set with
  | false =>
    obtain ⟨W, hW⟩ : ∃ W, w.alloc (.cells #[.bool false, .slice a1 n1 c1, .slice a2 n2 c2, .slice a3 n3 c3, .string non] 75) = W := ⟨_, rfl⟩
    have HG := Lib.hid (show Grw w W by rw [← hW]; exact (Grw.refl w).alloc _)
    have q0 : W.cell? ⟨w.heap.size, 0, none⟩ = some (.bool false) := by rw [← hW]; simp
    have q1 : W.cell? ⟨w.heap.size, 1, none⟩ = some (.slice a1 n1 c1) := by rw [← hW]; simp
    have q2 : W.cell? ⟨w.heap.size, 2, none⟩ = some (.slice a2 n2 c2) := by rw [← hW]; simp
    have q3 : W.cell? ⟨w.heap.size, 3, none⟩ = some (.slice a3 n3 c3) := by rw [← hW]; simp
    have q4 : W.cell? ⟨w.heap.size, 4, none⟩ = some (.string non) := by rw [← hW]; simp
    obtain ⟨hr1, hr2, hr3⟩ := (hr.below HG.out.below (Nat.le_refl _)).mono HG.out.below.size
    have HR1 := Lib.hid hr1; have HR2 := Lib.hid hr2; have HR3 := Lib.hid hr3; clear hr hr1 hr2 hr3
    have HI := Lib.hid (isPol_impl false scr sty img non a1 n1 c1 a2 n2 c2 a3 n3 c3 hz W ⟨HR1.out, HR2.out, HR3.out⟩)
    have HV := Lib.hid (fmtP_no (p := ⟨false, scr, sty, img, non⟩) (by rintro ⟨h, _⟩; cases h))
    clear z1 z2 z3 z4 hz
    clear HI
    go_enter Tryd.func60, Tryd.ntmps60
    go_wp2_with fail
    go_ret
    exact ⟨by rw [HV.out]; rfl, HG.out.below⟩
  | true =>
    obtain ⟨W, hW⟩ : ∃ W, w.alloc (.cells #[.bool true, .slice a1 n1 c1, .slice a2 n2 c2, .slice a3 n3 c3, .string non] 75) = W := ⟨_, rfl⟩
    have HG := Lib.hid (show Grw w W by rw [← hW]; exact (Grw.refl w).alloc _)
    have q0 : W.cell? ⟨w.heap.size, 0, none⟩ = some (.bool true) := by rw [← hW]; simp
    have q1 : W.cell? ⟨w.heap.size, 1, none⟩ = some (.slice a1 n1 c1) := by rw [← hW]; simp
    have q2 : W.cell? ⟨w.heap.size, 2, none⟩ = some (.slice a2 n2 c2) := by rw [← hW]; simp
    have q3 : W.cell? ⟨w.heap.size, 3, none⟩ = some (.slice a3 n3 c3) := by rw [← hW]; simp
    have q4 : W.cell? ⟨w.heap.size, 4, none⟩ = some (.string non) := by rw [← hW]; simp
    obtain ⟨hr1, hr2, hr3⟩ := (hr.below HG.out.below (Nat.le_refl _)).mono HG.out.below.size
    have HR1 := Lib.hid hr1; have HR2 := Lib.hid hr2; have HR3 := Lib.hid hr3; clear hr hr1 hr2 hr3
    have HI := Lib.hid (isPol_impl true scr sty img non a1 n1 c1 a2 n2 c2 a3 n3 c3 hz W ⟨HR1.out, HR2.out, HR3.out⟩)
    clear hz
    cases hp : isPol ⟨true, scr, sty, img, non⟩ with
    | false =>
      rw [hp] at HI
      have HV := Lib.hid (fmtP_no (p := ⟨true, scr, sty, img, non⟩) (by rintro ⟨_, h⟩; rw [hp] at h; cases h)); clear z1 z2 z3 z4
      clear hp
      go_enter Tryd.func60, Tryd.ntmps60
      go_wp2_with fail
      refine HI.out.mono ?_
      rintro e w1 ⟨rfl, hg⟩
      replace q0 := (hg.below.cell (show (⟨w.heap.size, 0, none⟩ : Addr).block < _ from World.block_lt_of_cell? _ _ q0)).trans q0
      replace q1 := (hg.below.cell (show (⟨w.heap.size, 1, none⟩ : Addr).block < _ from World.block_lt_of_cell? _ _ q1)).trans q1
      replace q2 := (hg.below.cell (show (⟨w.heap.size, 2, none⟩ : Addr).block < _ from World.block_lt_of_cell? _ _ q2)).trans q2
      replace q3 := (hg.below.cell (show (⟨w.heap.size, 3, none⟩ : Addr).block < _ from World.block_lt_of_cell? _ _ q3)).trans q3
      replace q4 := (hg.below.cell (show (⟨w.heap.size, 4, none⟩ : Addr).block < _ from World.block_lt_of_cell? _ _ q4)).trans q4
      replace HR1 := Lib.hid ((HR1.out.below hg.below (Nat.le_refl _)).mono hg.below.size)
      replace HR2 := Lib.hid ((HR2.out.below hg.below (Nat.le_refl _)).mono hg.below.size)
      replace HR3 := Lib.hid ((HR3.out.below hg.below (Nat.le_refl _)).mono hg.below.size)
      replace HG := Lib.hid (HG.out.trans hg); clear hg
      go_wp2_with fail
      go_ret
      exact ⟨by rw [HV.out]; rfl, HG.out.below⟩
    | true =>
      rw [hp] at HI
      have HP := Lib.hid hp
      clear hp
      go_enter Tryd.func60, Tryd.ntmps60
      go_wp2_with fail
      refine HI.out.mono ?_
      rintro e w1 ⟨rfl, hg⟩
      replace q0 := (hg.below.cell (show (⟨w.heap.size, 0, none⟩ : Addr).block < _ from World.block_lt_of_cell? _ _ q0)).trans q0
      replace q1 := (hg.below.cell (show (⟨w.heap.size, 1, none⟩ : Addr).block < _ from World.block_lt_of_cell? _ _ q1)).trans q1
      replace q2 := (hg.below.cell (show (⟨w.heap.size, 2, none⟩ : Addr).block < _ from World.block_lt_of_cell? _ _ q2)).trans q2
      replace q3 := (hg.below.cell (show (⟨w.heap.size, 3, none⟩ : Addr).block < _ from World.block_lt_of_cell? _ _ q3)).trans q3
      replace q4 := (hg.below.cell (show (⟨w.heap.size, 4, none⟩ : Addr).block < _ from World.block_lt_of_cell? _ _ q4)).trans q4
      replace HR1 := Lib.hid ((HR1.out.below hg.below (Nat.le_refl _)).mono hg.below.size)
      replace HR2 := Lib.hid ((HR2.out.below hg.below (Nat.le_refl _)).mono hg.below.size)
      replace HR3 := Lib.hid ((HR3.out.below hg.below (Nat.le_refl _)).mono hg.below.size)
      replace HG := Lib.hid (HG.out.trans hg); clear hg
      have hs1 : (wordsS kScr scr).size ≤ 1048582 := by rw [wordsS_size]; have := z1; have h6 : kScr.size ≤ 6 := (by decide); omega
      have HW1 := Lib.hid (fun (X : World) (hb : Below w1.heap.size w1 X) => show Calls Tryd.prog 67 #[.string ⟨#[115, 99, 114, 105, 112, 116]⟩, .slice a1 n1 c1] X fun e w' => e = .returned (.string (wordsS kScr scr)) ∧ Below X.heap.size X w' from (formatHosts_impl _ _ scr kScr X (HR1.out.below hb (Nat.le_refl _)) hb.size (by decide) z1).mono fun e w' h => h)
      have hs2 : (wordsS kSty sty).size ≤ 1048582 := by rw [wordsS_size]; have := z2; have h6 : kSty.size ≤ 6 := (by decide); omega
      have HW2 := Lib.hid (fun (X : World) (hb : Below w1.heap.size w1 X) => show Calls Tryd.prog 67 #[.string ⟨#[115, 116, 121, 108, 101]⟩, .slice a2 n2 c2] X fun e w' => e = .returned (.string (wordsS kSty sty)) ∧ Below X.heap.size X w' from (formatHosts_impl _ _ sty kSty X (HR2.out.below hb (Nat.le_refl _)) hb.size (by decide) z2).mono fun e w' h => h)
      have hs3 : (wordsS kImg img).size ≤ 1048582 := by rw [wordsS_size]; have := z3; have h6 : kImg.size ≤ 6 := (by decide); omega
      have HW3 := Lib.hid (fun (X : World) (hb : Below w1.heap.size w1 X) => show Calls Tryd.prog 67 #[.string ⟨#[105, 109, 103]⟩, .slice a3 n3 c3] X fun e w' => e = .returned (.string (wordsS kImg img)) ∧ Below X.heap.size X w' from (formatHosts_impl _ _ img kImg X (HR3.out.below hb (Nat.le_refl _)) hb.size (by decide) z3).mono fun e w' h => h)
      have HLS := Lib.hid (show (fmtP ⟨true, scr, sty, img, non⟩).data.toList = (wordsS kScr scr).data.toList ++ 59 :: ((wordsS kSty sty).data.toList ++ 59 :: ((wordsS kImg img).data.toList ++ nonL non)) by rw [fmtP_list rfl HP.out, wordsS_list, wordsS_list, wordsS_list])
      have hz4 : non.size ≤ 1048576 := z4
      clear z1 z2 z3 z4
      obtain ⟨X1, hX1⟩ : ∃ X, wordsS kScr scr = X := ⟨_, rfl⟩
      rw [hX1] at hs1 HW1 HLS
      clear hX1
      obtain ⟨X2, hX2⟩ : ∃ X, wordsS kSty sty = X := ⟨_, rfl⟩
      rw [hX2] at hs2 HW2 HLS
      clear hX2
      obtain ⟨X3, hX3⟩ : ∃ X, wordsS kImg img = X := ⟨_, rfl⟩
      rw [hX3] at hs3 HW3 HLS
      clear hX3
      have h59 : (⟨#[59]⟩ : ByteArray).size = 1 := rfl
      obtain ⟨A1, hA1⟩ : ∃ Y, X1 ++ ⟨#[59]⟩ = Y := ⟨_, rfl⟩
      have y1 : A1.size ≤ 1048583 := by rw [← hA1, ByteArray.size_append]; omega
      have s1 : ∀ W, (Op.stringOp .add X1 ⟨#[59]⟩).run Tryd.prog W = .ok (.string A1) W := fun W => by rw [← hA1]; exact run_string_add_sum _ _ _ (by omega)
      obtain ⟨A2, hA2⟩ : ∃ Y, A1 ++ X2 = Y := ⟨_, rfl⟩
      have y2 : A2.size ≤ 2097166 := by rw [← hA2, ByteArray.size_append]; omega
      have s2 : ∀ W, (Op.stringOp .add A1 X2).run Tryd.prog W = .ok (.string A2) W := fun W => by rw [← hA2]; exact run_string_add_sum _ _ _ (by omega)
      obtain ⟨A3, hA3⟩ : ∃ Y, A2 ++ ⟨#[59]⟩ = Y := ⟨_, rfl⟩
      have y3 : A3.size ≤ 3145749 := by rw [← hA3, ByteArray.size_append]; omega
      have s3 : ∀ W, (Op.stringOp .add A2 ⟨#[59]⟩).run Tryd.prog W = .ok (.string A3) W := fun W => by rw [← hA3]; exact run_string_add_sum _ _ _ (by omega)
      obtain ⟨A4, hA4⟩ : ∃ Y, A3 ++ X3 = Y := ⟨_, rfl⟩
      have y4 : A4.size ≤ 4194332 := by rw [← hA4, ByteArray.size_append]; omega
      have s4 : ∀ W, (Op.stringOp .add A3 X3).run Tryd.prog W = .ok (.string A4) W := fun W => by rw [← hA4]; exact run_string_add_sum _ _ _ (by omega)
      have HA4 := Lib.hid (show A4.data.toList = X1.data.toList ++ 59 :: (X2.data.toList ++ 59 :: X3.data.toList) by rw [← hA4, ← hA3, ← hA2, ← hA1, append_list, append_list, append_list, append_list]; simp [List.append_assoc])
      clear hA1 hA2 hA3 hA4
      go_upto_region 3 with (fail)
      go_cut [3] from 12 to 24 (fun c wx => c = .string A4 ∧ Below w1.heap.size w1 wx)
      case first =>
        have KEEP := Lib.hid (fun (w' : World) (h : Below w1.heap.size w1 w') => show Below w1.heap.size w1 w' ∧ w'.cell? ⟨w.heap.size, 1, none⟩ = some (.slice a1 n1 c1) ∧ w'.cell? ⟨w.heap.size, 2, none⟩ = some (.slice a2 n2 c2) ∧ w'.cell? ⟨w.heap.size, 3, none⟩ = some (.slice a3 n3 c3) from ⟨h, (h.cell (show (⟨w.heap.size, 1, none⟩ : Addr).block < _ from World.block_lt_of_cell? _ _ q1)).trans q1, (h.cell (show (⟨w.heap.size, 2, none⟩ : Addr).block < _ from World.block_lt_of_cell? _ _ q2)).trans q2, (h.cell (show (⟨w.heap.size, 3, none⟩ : Addr).block < _ from World.block_lt_of_cell? _ _ q3)).trans q3⟩)
        go_region_held3 (fun w' => Below w1.heap.size w1 w' ∧ w'.cell? ⟨w.heap.size, 1, none⟩ = some (.slice a1 n1 c1) ∧ w'.cell? ⟨w.heap.size, 2, none⟩ = some (.slice a2 n2 c2) ∧ w'.cell? ⟨w.heap.size, 3, none⟩ = some (.slice a3 n3 c3)) (exact KEEP.out _ (by repeat' (first | (with_reducible exact Below.refl _ _) | (with_reducible exact hPC) | (with_reducible exact hPB) | (with_reducible exact hPA) | (with_reducible refine bl_dw ?_) | (with_reducible refine bl_aw ?_ _)))) (first | (go_at_call 67; with_reducible refine (HW1.out _ (by repeat' (first | (with_reducible exact Below.refl _ _) | (with_reducible exact hPC) | (with_reducible exact hPB) | (with_reducible exact hPA) | (with_reducible refine bl_dw ?_) | (with_reducible refine bl_aw ?_ _)))).mono ?_; rintro e wA ⟨rfl, hbA⟩; have hPA := bl_tr (show Below w1.heap.size w1 _ from (by repeat' (first | (with_reducible exact Below.refl _ _) | (with_reducible exact hPC) | (with_reducible exact hPB) | (with_reducible exact hPA) | (with_reducible refine bl_dw ?_) | (with_reducible refine bl_aw ?_ _)))) hbA) | (go_at_call 67; with_reducible refine (HW2.out _ (by repeat' (first | (with_reducible exact Below.refl _ _) | (with_reducible exact hPC) | (with_reducible exact hPB) | (with_reducible exact hPA) | (with_reducible refine bl_dw ?_) | (with_reducible refine bl_aw ?_ _)))).mono ?_; rintro e wB ⟨rfl, hbB⟩; have hPB := bl_tr (show Below w1.heap.size w1 _ from (by repeat' (first | (with_reducible exact Below.refl _ _) | (with_reducible exact hPC) | (with_reducible exact hPB) | (with_reducible exact hPA) | (with_reducible refine bl_dw ?_) | (with_reducible refine bl_aw ?_ _)))) hbB) | (go_at_call 67; with_reducible refine (HW3.out _ (by repeat' (first | (with_reducible exact Below.refl _ _) | (with_reducible exact hPC) | (with_reducible exact hPB) | (with_reducible exact hPA) | (with_reducible refine bl_dw ?_) | (with_reducible refine bl_aw ?_ _)))).mono ?_; rintro e wC ⟨rfl, hbC⟩; have hPC := bl_tr (show Below w1.heap.size w1 _ from (by repeat' (first | (with_reducible exact Below.refl _ _) | (with_reducible exact hPC) | (with_reducible exact hPB) | (with_reducible exact hPA) | (with_reducible refine bl_dw ?_) | (with_reducible refine bl_aw ?_ _)))) hbC))
        all_goals
          go_wp2_with fail
          go_meet
          exact ⟨rfl, (by repeat' (first | (with_reducible exact Below.refl _ _) | (with_reducible exact hPC) | (with_reducible exact hPB) | (with_reducible exact hPA) | (with_reducible refine bl_dw ?_) | (with_reducible refine bl_aw ?_ _)))⟩
      obtain ⟨rfl, hB⟩ := hcut
      rename World => w_2
      replace q4 := (hB.cell (show (⟨w.heap.size, 4, none⟩ : Addr).block < _ from World.block_lt_of_cell? _ _ q4)).trans q4
      have HB := Lib.hid (HG.out.below.trans (hB.mono HG.out.below.size)); clear hB q0 q1 q2 q3 s1 s2 s3 s4
      by_cases m4 : non.size = 0
      · have b4 : (non.toList == []) = true := by rw [empP_size, decide_eq_true m4]
        have b5 : (non.toList != []) = false := by rw [bne, b4]; rfl
        have HV := Lib.hid (show A4 = fmtP ⟨true, scr, sty, img, non⟩ from bytesEq (by rw [HLS.out, HA4.out]; unfold nonL; rw [if_pos m4, List.append_nil])); clear m4
        go_wp2_with fail
        go_ret
        exact ⟨by rw [← HV.out]; rfl, HB.out⟩
      · have b4 : (non.toList == []) = false := by rw [empP_size, decide_eq_false m4]
        have b5 : (non.toList != []) = true := by rw [bne, b4]; rfl
        have h7 : (⟨#[59, 110, 111, 110, 99, 101, 32]⟩ : ByteArray).size = 7 := rfl
        obtain ⟨A5, hA5⟩ : ∃ Y, ⟨#[59, 110, 111, 110, 99, 101, 32]⟩ ++ non = Y := ⟨_, rfl⟩
        have y5 : A5.size ≤ 9194308 := by rw [← hA5, ByteArray.size_append]; omega
        have s5 : ∀ W, (Op.stringOp .add ⟨#[59, 110, 111, 110, 99, 101, 32]⟩ non).run Tryd.prog W = .ok (.string A5) W := fun W => by rw [← hA5]; exact run_string_add_sum _ _ _ (by omega)
        obtain ⟨A6, hA6⟩ : ∃ Y, A4 ++ A5 = Y := ⟨_, rfl⟩
        have s6 : ∀ W, (Op.stringOp .add A4 A5).run Tryd.prog W = .ok (.string A6) W := fun W => by rw [← hA6]; exact run_string_add_sum _ _ _ (by omega)
        have HV := Lib.hid (show A6 = fmtP ⟨true, scr, sty, img, non⟩ from bytesEq (by rw [HLS.out, ← hA6, ← hA5, append_list, append_list, HA4.out]; unfold nonL; rw [if_neg m4]; simp [List.append_assoc, kNon])); clear m4 hA5 hA6
        go_wp2_with fail
        go_ret
        exact ⟨by rw [← HV.out]; rfl, HB.out⟩

end Go.Proofs.YtpkicliimhflgaaDoor
namespace Go.Proofs.YtpkicliimhflgaaDoor
open Go.ChangeShapes Go.WideShapes Go.ChangeAt Go.RowKit

set_option maxRecDepth 100000 in
set_option maxHeartbeats 4000000 in
theorem readPolicy_any (s : ByteArray) (hz : s.size ≤ 1048576) (w : World) (hm : Max0 w) :
    Calls Tryd.prog 59 #[.string s] w (RdNew (rdI s) w) := by
  obtain ⟨F, N, B, hcut⟩ : ∃ F N B, Lib.cut s.data.toList kNon.data.toList = (F, N, B) := ⟨_, _, _, rfl⟩
  have hcl := cut_len s.data.toList kNon.data.toList
  rw [hcut, size_list] at hcl; dsimp only at hcl
  obtain ⟨hFl, hNl⟩ := hcl
  obtain ⟨L, hL⟩ : ∃ L, splS 59 F = L := ⟨_, rfl⟩
  have HR := Lib.hid (rdI_eq hcut hL)
  obtain ⟨W0, hW0⟩ : ∃ x, w.alloc (.cells #[.bool false, .slice none 0 0, .slice none 0 0, .slice none 0 0, .string ⟨#[]⟩] 75) = x := ⟨_, rfl⟩
  have HB0 := Lib.hid (show Below w.heap.size w W0 by rw [← hW0]; exact bl_aw (Below.refl _ _) _)
  have H0 := Lib.hid (show W0.heap[w.heap.size]? = some (.cells #[.bool false, .slice none 0 0, .slice none 0 0, .slice none 0 0, .string ⟨#[]⟩] 75 (0, 0)) by rw [← hW0]; exact heap_alloc_new w _)
  have hct := cutN_any s hz W0 (hm.on HB0.out)
  rw [hcut] at hct; dsimp only at hct
  have HCT := Lib.hid hct; have HW0 := Lib.hid hW0; have HLL := Lib.hid hL; clear hct hW0 hcut hm
  have HSP := Lib.hid (fun X => split_any (ofL F) 59 (by rw [ofL_size]; omega) X)
  go_enter Tryd.func59, Tryd.ntmps59
  go_wp2_with fail
  rw [HW0.out]
  refine HCT.out.mono ?_
  rintro e w1 ⟨rfl, n, rfl⟩
  have HB1 := Lib.hid (below_dN W0 n)
  obtain ⟨w1, hw1⟩ : ∃ x, W0.drewN n = x := ⟨_, rfl⟩
  rw [hw1] at HB1 ⊢
  clear hw1
  go_wp2_with fail
  refine (HSP.out _).mono ?_
  rintro e w2 ⟨v, rfl, ho, hb⟩
  rw [ofL_list, HLL.out] at ho
  have HB2 := Lib.hid (show Below W0.heap.size W0 w2 from bl_tr HB1.out hb); clear hb
  have HBX := Lib.hid (below_heap HB2.out (heap_lt H0.out) H0.out)
  by_cases h3 : L.length = 3
  · obtain ⟨a, b, c, rfl⟩ := three_of h3
    clear h3
    have hza : a.size ≤ 1048576 := by have h := sp_piece (p := a) (c := 59) (l := F) (by rw [HLL.out]; simp); omega
    have hzb : b.size ≤ 1048576 := by have h := sp_piece (p := b) (c := 59) (l := F) (by rw [HLL.out]; simp); omega
    have hzc : c.size ≤ 1048576 := by have h := sp_piece (p := c) (c := 59) (l := F) (by rw [HLL.out]; simp); omega
    have HX1 := Lib.hid (fun X => readHosts_any a hza X)
    have HX2 := Lib.hid (fun X => readHosts_any b hzb X)
    have HX3 := Lib.hid (fun X => readHosts_any c hzc X)
    obtain ⟨X1, hX1⟩ : ∃ x, (splS 32 a.data.toList).tail = x := ⟨_, rfl⟩
    obtain ⟨X2, hX2⟩ : ∃ x, (splS 32 b.data.toList).tail = x := ⟨_, rfl⟩
    obtain ⟨X3, hX3⟩ : ∃ x, (splS 32 c.data.toList).tail = x := ⟨_, rfl⟩
    have HRR := Lib.hid (show rdI s = ⟨true, X1, X2, X3, ofL N⟩ by rw [HR.out, ← hX1, ← hX2, ← hX3]; rfl); clear HR
    try rw [HRR.out]
    rw [hX1] at HX1; rw [hX2] at HX2; rw [hX3] at HX3
    have hrd := ho.reads encS_len
    obtain ⟨g, n', cc, rfl, hn1, hcc, hcm⟩ := own_first ho
    have hn3 : n' = 3 := by obtain ⟨_, _, e, _⟩ := hrd; injection e with _ e _
    subst hn3
    have hnw := hrd.news encS_len
    have c0 : w2.cell? ⟨g, 0, none⟩ = some (.string a) := by have h := hnw 0 (.string a) rfl; rw [add_off, Nat.zero_add] at h; exact h
    have c1 : w2.cell? ⟨g, 1, none⟩ = some (.string b) := by have h := hnw 1 (.string b) rfl; rw [add_off, Nat.zero_add] at h; exact h
    have c2 : w2.cell? ⟨g, 2, none⟩ = some (.string c) := by have h := hnw 2 (.string c) rfl; rw [add_off, Nat.zero_add] at h; exact h
    have hgl : w1.heap.size ≤ g ∧ g < w2.heap.size := ho.lt g rfl
    have hgp : g ≠ w.heap.size := by have := HB1.out.size; have := heap_lt H0.out; omega
    have hgs := hgl.2
    clear ho hrd hnw hgl hX1 hX2 hX3 hn1
    have HKC := Lib.hid (fun (j : Nat) (u : Value) (h : w2.cell? ⟨g, j, none⟩ = some u) (w' : World) (hb : OnlyB [w.heap.size] w2 w') => show w'.cell? ⟨g, j, none⟩ = some u from (cell_only (a := ⟨g, j, none⟩) hb (show g ∉ _ by simpa using hgp) hgs).trans h)
    have KEEP := Lib.hid (fun (w' : World) (h : OnlyB [w.heap.size] w2 w') => show OnlyB [w.heap.size] w2 w' ∧ w'.cell? ⟨g, 0, none⟩ = some (.string a) ∧ w'.cell? ⟨g, 1, none⟩ = some (.string b) ∧ w'.cell? ⟨g, 2, none⟩ = some (.string c) from ⟨h, HKC.out 0 _ c0 w' h, HKC.out 1 _ c1 w' h, HKC.out 2 _ c2 w' h⟩)
    have HPS := Lib.hid (show w.heap.size < w2.heap.size by have := HB2.out.size; have := heap_lt H0.out; omega)
    clear c0 c1 c2 hgp hgs hza hzb hzc hFl hNl hz
    go_upto_region 5 with (fail)
    go_cut [32] from 19 to 32 (fun _ wx => ∃ (b1 : Option Addr) (m1 k1 : Nat) (b2 : Option Addr) (m2 k2 : Nat) (b3 : Option Addr) (m3 k3 : Nat), wx.heap[w.heap.size]? = some (.cells #[.bool true, .slice b1 m1 k1, .slice b2 m2 k2, .slice b3 m3 k3, .string (ofL N)] 75 (0, 0)) ∧ Own3O (w.heap.size + 1) wx (.slice b1 m1 k1) (.slice b2 m2 k2) (.slice b3 m3 k3) X1 X2 X3 ∧ Below w.heap.size w wx)
    case first =>
      go_region_held3 (fun w' => OnlyB [w.heap.size] w2 w' ∧ w'.cell? ⟨g, 0, none⟩ = some (.string a) ∧ w'.cell? ⟨g, 1, none⟩ = some (.string b) ∧ w'.cell? ⟨g, 2, none⟩ = some (.string c)) (exact KEEP.out _ (by repeat' (first | (with_reducible exact OnlyB.refl _ _) | (with_reducible exact OnlyB.of_below hPC _) | (with_reducible exact OnlyB.of_below hPB _) | (with_reducible exact OnlyB.of_below hPA _) | (with_reducible refine ob_dw ?_) | (with_reducible refine ob_st ?_ _) | (with_reducible refine ob_aw ?_ _)))) (first | (go_at_call 65; (with_reducible refine (HX1.out _).mono ?_); rintro e wA ⟨aA, nA, cA, rfl, hoA, hbA⟩; have hSA := bl_sz (show Below w2.heap.size w2 _ from (by repeat' (first | (with_reducible exact Below.refl _ _) | (with_reducible exact hPC) | (with_reducible exact hPB) | (with_reducible exact hPA) | (with_reducible refine bl_dw ?_) | (with_reducible refine bl_aw ?_ _)))) hbA; have hPA := bl_tr (show Below w2.heap.size w2 _ from (by repeat' (first | (with_reducible exact Below.refl _ _) | (with_reducible exact hPC) | (with_reducible exact hPB) | (with_reducible exact hPA) | (with_reducible refine bl_dw ?_) | (with_reducible refine bl_aw ?_ _)))) hbA; have zA0 := box_cell (below_heap hPA (heap_lt HBX.out) HBX.out) (j := 0) rfl; have fA0 := box_frz (below_heap hPA (heap_lt HBX.out) HBX.out) 0; have zA1 := box_cell (below_heap hPA (heap_lt HBX.out) HBX.out) (j := 1) rfl; have fA1 := box_frz (below_heap hPA (heap_lt HBX.out) HBX.out) 1; have zA2 := box_cell (below_heap hPA (heap_lt HBX.out) HBX.out) (j := 2) rfl; have fA2 := box_frz (below_heap hPA (heap_lt HBX.out) HBX.out) 2; have zA3 := box_cell (below_heap hPA (heap_lt HBX.out) HBX.out) (j := 3) rfl; have fA3 := box_frz (below_heap hPA (heap_lt HBX.out) HBX.out) 3; have zA4 := box_cell (below_heap hPA (heap_lt HBX.out) HBX.out) (j := 4) rfl; have fA4 := box_frz (below_heap hPA (heap_lt HBX.out) HBX.out) 4; (first | (have dBA := bl_sz (show Below wB.heap.size wB _ from (by repeat' (first | (with_reducible exact Below.refl _ _) | (with_reducible exact kBA) | (with_reducible exact kBC) | (with_reducible refine bl_dw ?_) | (with_reducible refine bl_aw ?_ _)))) hbA; have kBA := bl_tr (show Below wB.heap.size wB _ from (by repeat' (first | (with_reducible exact Below.refl _ _) | (with_reducible exact kBA) | (with_reducible exact kBC) | (with_reducible refine bl_dw ?_) | (with_reducible refine bl_aw ?_ _)))) hbA) | skip); (first | (have dCA := bl_sz (show Below wC.heap.size wC _ from (by repeat' (first | (with_reducible exact Below.refl _ _) | (with_reducible exact kCA) | (with_reducible exact kCB) | (with_reducible refine bl_dw ?_) | (with_reducible refine bl_aw ?_ _)))) hbA; have kCA := bl_tr (show Below wC.heap.size wC _ from (by repeat' (first | (with_reducible exact Below.refl _ _) | (with_reducible exact kCA) | (with_reducible exact kCB) | (with_reducible refine bl_dw ?_) | (with_reducible refine bl_aw ?_ _)))) hbA) | skip)) | (go_at_call 65; (with_reducible refine (HX2.out _).mono ?_); rintro e wB ⟨aB, nB, cB, rfl, hoB, hbB⟩; have hSB := bl_sz (show Below w2.heap.size w2 _ from (by repeat' (first | (with_reducible exact Below.refl _ _) | (with_reducible exact hPC) | (with_reducible exact hPB) | (with_reducible exact hPA) | (with_reducible refine bl_dw ?_) | (with_reducible refine bl_aw ?_ _)))) hbB; have hPB := bl_tr (show Below w2.heap.size w2 _ from (by repeat' (first | (with_reducible exact Below.refl _ _) | (with_reducible exact hPC) | (with_reducible exact hPB) | (with_reducible exact hPA) | (with_reducible refine bl_dw ?_) | (with_reducible refine bl_aw ?_ _)))) hbB; have zB0 := box_cell (below_heap hPB (heap_lt HBX.out) HBX.out) (j := 0) rfl; have fB0 := box_frz (below_heap hPB (heap_lt HBX.out) HBX.out) 0; have zB1 := box_cell (below_heap hPB (heap_lt HBX.out) HBX.out) (j := 1) rfl; have fB1 := box_frz (below_heap hPB (heap_lt HBX.out) HBX.out) 1; have zB2 := box_cell (below_heap hPB (heap_lt HBX.out) HBX.out) (j := 2) rfl; have fB2 := box_frz (below_heap hPB (heap_lt HBX.out) HBX.out) 2; have zB3 := box_cell (below_heap hPB (heap_lt HBX.out) HBX.out) (j := 3) rfl; have fB3 := box_frz (below_heap hPB (heap_lt HBX.out) HBX.out) 3; have zB4 := box_cell (below_heap hPB (heap_lt HBX.out) HBX.out) (j := 4) rfl; have fB4 := box_frz (below_heap hPB (heap_lt HBX.out) HBX.out) 4; (first | (have dAB := bl_sz (show Below wA.heap.size wA _ from (by repeat' (first | (with_reducible exact Below.refl _ _) | (with_reducible exact kAB) | (with_reducible exact kAC) | (with_reducible refine bl_dw ?_) | (with_reducible refine bl_aw ?_ _)))) hbB; have kAB := bl_tr (show Below wA.heap.size wA _ from (by repeat' (first | (with_reducible exact Below.refl _ _) | (with_reducible exact kAB) | (with_reducible exact kAC) | (with_reducible refine bl_dw ?_) | (with_reducible refine bl_aw ?_ _)))) hbB) | skip); (first | (have dCB := bl_sz (show Below wC.heap.size wC _ from (by repeat' (first | (with_reducible exact Below.refl _ _) | (with_reducible exact kCA) | (with_reducible exact kCB) | (with_reducible refine bl_dw ?_) | (with_reducible refine bl_aw ?_ _)))) hbB; have kCB := bl_tr (show Below wC.heap.size wC _ from (by repeat' (first | (with_reducible exact Below.refl _ _) | (with_reducible exact kCA) | (with_reducible exact kCB) | (with_reducible refine bl_dw ?_) | (with_reducible refine bl_aw ?_ _)))) hbB) | skip)) | (go_at_call 65; (with_reducible refine (HX3.out _).mono ?_); rintro e wC ⟨aC, nC, cC, rfl, hoC, hbC⟩; have hSC := bl_sz (show Below w2.heap.size w2 _ from (by repeat' (first | (with_reducible exact Below.refl _ _) | (with_reducible exact hPC) | (with_reducible exact hPB) | (with_reducible exact hPA) | (with_reducible refine bl_dw ?_) | (with_reducible refine bl_aw ?_ _)))) hbC; have hPC := bl_tr (show Below w2.heap.size w2 _ from (by repeat' (first | (with_reducible exact Below.refl _ _) | (with_reducible exact hPC) | (with_reducible exact hPB) | (with_reducible exact hPA) | (with_reducible refine bl_dw ?_) | (with_reducible refine bl_aw ?_ _)))) hbC; have zC0 := box_cell (below_heap hPC (heap_lt HBX.out) HBX.out) (j := 0) rfl; have fC0 := box_frz (below_heap hPC (heap_lt HBX.out) HBX.out) 0; have zC1 := box_cell (below_heap hPC (heap_lt HBX.out) HBX.out) (j := 1) rfl; have fC1 := box_frz (below_heap hPC (heap_lt HBX.out) HBX.out) 1; have zC2 := box_cell (below_heap hPC (heap_lt HBX.out) HBX.out) (j := 2) rfl; have fC2 := box_frz (below_heap hPC (heap_lt HBX.out) HBX.out) 2; have zC3 := box_cell (below_heap hPC (heap_lt HBX.out) HBX.out) (j := 3) rfl; have fC3 := box_frz (below_heap hPC (heap_lt HBX.out) HBX.out) 3; have zC4 := box_cell (below_heap hPC (heap_lt HBX.out) HBX.out) (j := 4) rfl; have fC4 := box_frz (below_heap hPC (heap_lt HBX.out) HBX.out) 4; (first | (have dAC := bl_sz (show Below wA.heap.size wA _ from (by repeat' (first | (with_reducible exact Below.refl _ _) | (with_reducible exact kAB) | (with_reducible exact kAC) | (with_reducible refine bl_dw ?_) | (with_reducible refine bl_aw ?_ _)))) hbC; have kAC := bl_tr (show Below wA.heap.size wA _ from (by repeat' (first | (with_reducible exact Below.refl _ _) | (with_reducible exact kAB) | (with_reducible exact kAC) | (with_reducible refine bl_dw ?_) | (with_reducible refine bl_aw ?_ _)))) hbC) | skip); (first | (have dBC := bl_sz (show Below wB.heap.size wB _ from (by repeat' (first | (with_reducible exact Below.refl _ _) | (with_reducible exact kBA) | (with_reducible exact kBC) | (with_reducible refine bl_dw ?_) | (with_reducible refine bl_aw ?_ _)))) hbC; have kBC := bl_tr (show Below wB.heap.size wB _ from (by repeat' (first | (with_reducible exact Below.refl _ _) | (with_reducible exact kBA) | (with_reducible exact kBC) | (with_reducible refine bl_dw ?_) | (with_reducible refine bl_aw ?_ _)))) hbC) | skip)))
      all_goals
        go_wp2_with fail
        go_meet
        have hsA := HPS.out
        exact ⟨aA, nA, cA, aB, nB, cB, aC, nC, cC, finO (below_heap hPC (heap_lt HBX.out) HBX.out) (Nat.le_refl _) (HB0.out.trans ((HB2.out.trans (hPC.mono HB2.out.size)).mono HB0.out.size)) (Nat.le_refl _) hoA kAC hoB kBC hoC (Below.refl _ _) (Nat.lt_of_lt_of_le hsA hSA) (Nat.lt_of_lt_of_le hsA hSB) (Nat.lt_of_lt_of_le hsA hSC) dAB dAC dBC⟩
    obtain ⟨b1, m1, k1, b2, m2, k2, b3, m3, k3, hbox, how, hbf⟩ := hcut
    have HOW := Lib.hid how; have HBF := Lib.hid hbf; clear how hbf
    have fq0 := box_cell hbox (j := 0) rfl
    have fq1 := box_cell hbox (j := 1) rfl
    have fq2 := box_cell hbox (j := 2) rfl
    have fq3 := box_cell hbox (j := 3) rfl
    have fq4 := box_cell hbox (j := 4) rfl
    clear hbox
    go_wp2_with fail
    refine bodyPost_ret (v := .agg #[.bool true, .slice b1 m1 k1, .slice b2 m2 k2, .slice b3 m3 k3, .string (ofL N)]) (by simp [results, Tryd.results59, go_sem, fq0, fq1, fq2, fq3, fq4]) rfl ?_
    try rw [HRR.out]
    exact ⟨b1, m1, k1, b2, m2, k2, b3, m3, k3, rfl, HOW.out.low (Nat.le_succ _), HBF.out⟩
  · have HRR := Lib.hid (show rdI s = polZ by rw [HR.out]; exact rdL_no h3); clear HR
    try rw [HRR.out]
    obtain ⟨va, vc, rfl, _⟩ := ho.reads encS_len
    obtain ⟨m, hm⟩ : ∃ m, L.length = m := ⟨_, rfl⟩
    rw [hm] at h3 ⊢; clear hm ho
    have e3 : ((m : Int) != 3) = true := bne_iff_ne.2 (by omega)
    have e4 : ((m : Int) == 3) = false := beq_eq_false_iff_ne.2 (by omega)
    have y0 := box_cell HBX.out (j := 0) rfl; have x0 := box_frz HBX.out 0
    have y1 := box_cell HBX.out (j := 1) rfl; have x1 := box_frz HBX.out 1
    have y2 := box_cell HBX.out (j := 2) rfl; have x2 := box_frz HBX.out 2
    have y3 := box_cell HBX.out (j := 3) rfl; have x3 := box_frz HBX.out 3
    have y4 := box_cell HBX.out (j := 4) rfl; have x4 := box_frz HBX.out 4
    go_wp2_with fail
    obtain ⟨w9, hw9⟩ : ∃ x, (((((w2.setCell ⟨w.heap.size, 0, none⟩ (.bool false)).setCell ⟨w.heap.size, 1, none⟩ (.slice none 0 0)).setCell ⟨w.heap.size, 2, none⟩ (.slice none 0 0)).setCell ⟨w.heap.size, 3, none⟩ (.slice none 0 0)).setCell ⟨w.heap.size, 4, none⟩ (.string ⟨#[]⟩)) = x := ⟨_, rfl⟩
    rw [hw9]
    have hon : OnlyB [w.heap.size] w2 w9 := by rw [← hw9]; exact set5_only w2 (w.heap.size) _ _ _ _ _
    have hb9 := set5_box HBX.out (.bool false) (.slice none 0 0) (.slice none 0 0) (.slice none 0 0) (.string ⟨#[]⟩)
    rw [show set5 w2 (w.heap.size) (.bool false) (.slice none 0 0) (.slice none 0 0) (.slice none 0 0) (.string ⟨#[]⟩) = w9 from hw9] at hb9
    have r0 := box_cell hb9 (j := 0) rfl
    have r1 := box_cell hb9 (j := 1) rfl
    have r2 := box_cell hb9 (j := 2) rfl
    have r3 := box_cell hb9 (j := 3) rfl
    have r4 := box_cell hb9 (j := 4) rfl
    refine bodyPost_ret (v := .agg #[.bool false, .slice none 0 0, .slice none 0 0, .slice none 0 0, .string ⟨#[]⟩]) (by simp [results, Tryd.results59, go_sem, r0, r1, r2, r3, r4]) rfl ?_
    have hbl := HB0.out.trans (HB2.out.mono HB0.out.size)
    try unfold PrsNew
    try rw [HRR.out]
    refine ⟨none, 0, 0, none, 0, 0, none, 0, 0, rfl, own3O_zero _ _, ?_⟩
    exact hbl.trans (hon.below (fun i hi => by rw [List.mem_singleton] at hi; omega) hbl.size)


set_option maxRecDepth 100000 in
set_option maxHeartbeats 4000000 in
theorem prs_impl (s : ByteArray) (hz : s.size ≤ 1048576) (w : World) (hm : Max0 w) :
    Calls Tryd.prog 53 #[.string s] w (PrsNew (prsP s) w) := by
  obtain ⟨W0, hW0⟩ : ∃ x, w.alloc (.cells #[.bool false, .slice none 0 0, .slice none 0 0, .slice none 0 0, .string ⟨#[]⟩] 75) = x := ⟨_, rfl⟩
  have HB0 := Lib.hid (show Below w.heap.size w W0 by rw [← hW0]; exact bl_aw (Below.refl _ _) _)
  have H0 := Lib.hid (show W0.heap[w.heap.size]? = some (.cells #[.bool false, .slice none 0 0, .slice none 0 0, .slice none 0 0, .string ⟨#[]⟩] 75 (0, 0)) by rw [← hW0]; exact heap_alloc_new w _)
  have HW0 := Lib.hid hW0; clear hW0
  by_cases h0 : s.size = 0
  · have e1 : (s.toList == []) = true := by rw [empP_size, decide_eq_true h0]
    have HRR := Lib.hid (show prsP s = (polZ, true) by unfold prsP; rw [if_pos h0]); clear h0 hm hz
    go_enter Tryd.func53, Tryd.ntmps53
    go_upto_region 2 with (fail)
    rw [HW0.out]
    have y0 := box_cell H0.out (j := 0) rfl; have x0 := box_frz H0.out 0
    have y1 := box_cell H0.out (j := 1) rfl; have x1 := box_frz H0.out 1
    have y2 := box_cell H0.out (j := 2) rfl; have x2 := box_frz H0.out 2
    have y3 := box_cell H0.out (j := 3) rfl; have x3 := box_frz H0.out 3
    have y4 := box_cell H0.out (j := 4) rfl; have x4 := box_frz H0.out 4
    go_wp2_with fail
    obtain ⟨w9, hw9⟩ : ∃ x, (((((W0.setCell ⟨w.heap.size, 0, none⟩ (.bool false)).setCell ⟨w.heap.size, 1, none⟩ (.slice none 0 0)).setCell ⟨w.heap.size, 2, none⟩ (.slice none 0 0)).setCell ⟨w.heap.size, 3, none⟩ (.slice none 0 0)).setCell ⟨w.heap.size, 4, none⟩ (.string ⟨#[]⟩)) = x := ⟨_, rfl⟩
    rw [hw9]
    have hon : OnlyB [w.heap.size] W0 w9 := by rw [← hw9]; exact set5_only W0 (w.heap.size) _ _ _ _ _
    have hb9 := set5_box H0.out (.bool false) (.slice none 0 0) (.slice none 0 0) (.slice none 0 0) (.string ⟨#[]⟩)
    rw [show set5 W0 (w.heap.size) (.bool false) (.slice none 0 0) (.slice none 0 0) (.slice none 0 0) (.string ⟨#[]⟩) = w9 from hw9] at hb9
    have r0 := box_cell hb9 (j := 0) rfl
    have r1 := box_cell hb9 (j := 1) rfl
    have r2 := box_cell hb9 (j := 2) rfl
    have r3 := box_cell hb9 (j := 3) rfl
    have r4 := box_cell hb9 (j := 4) rfl
    refine bodyPost_ret (v := .tuple #[.agg #[.bool false, .slice none 0 0, .slice none 0 0, .slice none 0 0, .string ⟨#[]⟩], .bool true]) (by simp [results, Tryd.results53, go_sem, r0, r1, r2, r3, r4]) rfl ?_
    have hbl := HB0.out
    try unfold PrsNew
    try rw [HRR.out]
    refine ⟨none, 0, 0, none, 0, 0, none, 0, 0, rfl, own3O_zero _ _, ?_⟩
    exact hbl.trans (hon.below (fun i hi => by rw [List.mem_singleton] at hi; omega) hbl.size)
  · have e1 : (s.toList == []) = false := by rw [empP_size, decide_eq_false h0]
    have HPP := Lib.hid (show prsP s = if fmtP (rdI s) = s then (rdI s, true) else (polZ, false) by unfold prsP; rw [if_neg h0]); clear h0
    have HSM := Lib.hid (rdI_sm hz)
    have HRD := Lib.hid (readPolicy_any s hz W0 (hm.on HB0.out)); clear hm hz
    obtain ⟨⟨set, scr, sty, img, non⟩, hq⟩ : ∃ q, rdI s = q := ⟨_, rfl⟩
    rw [hq] at HPP HSM HRD; clear hq
    go_enter Tryd.func53, Tryd.ntmps53
    go_upto_region 3 with (fail)
    rw [HW0.out]
    go_wp2_with fail
    refine HRD.out.mono ?_
    rintro e w1 ⟨a1, n1, c1, a2, n2, c2, a3, n3, c3, rfl, how, hb⟩
    go_upto_region 4 with (fail)
    obtain ⟨W2, hW2⟩ : ∃ x, w1.alloc (.cells #[.bool set, .slice a1 n1 c1, .slice a2 n2 c2, .slice a3 n3 c3, .string non] 75) = x := ⟨_, rfl⟩
    rw [hW2]
    have hb2 : Below w1.heap.size w1 W2 := by rw [← hW2]; exact bl_aw (Below.refl _ _) _
    have hbx : W2.heap[w1.heap.size]? = some (.cells #[.bool set, .slice a1 n1 c1, .slice a2 n2 c2, .slice a3 n3 c3, .string non] 75 (0, 0)) := by rw [← hW2]; exact heap_alloc_new w1 _
    have HO2 := Lib.hid (how.later hb2); have HB2 := Lib.hid (bl_tr hb hb2); have HBX := Lib.hid hbx; clear how hb hb2 hW2
    have q0 := box_cell hbx (j := 0) rfl
    have q1 := box_cell hbx (j := 1) rfl
    have q2 := box_cell hbx (j := 2) rfl
    have q3 := box_cell hbx (j := 3) rfl
    have q4 := box_cell hbx (j := 4) rfl
    have HFM := Lib.hid (fmtPol_impl set scr sty img non a1 n1 c1 a2 n2 c2 a3 n3 c3 HSM.out W2 (HO2.out.reads (p := ⟨set, scr, sty, img, non⟩))); clear hbx
    obtain ⟨T, hT⟩ : ∃ x, fmtP ⟨set, scr, sty, img, non⟩ = x := ⟨_, rfl⟩
    rw [hT] at HPP HFM; clear hT
    have hsz1 : w.heap.size < W0.heap.size := heap_lt H0.out
    go_wp2_with fail
    refine HFM.out.mono ?_
    rintro e w3 ⟨rfl, hb3⟩
    have HO3 := Lib.hid (HO2.out.later hb3); have HB3 := Lib.hid (bl_tr HB2.out hb3); have HBX3 := Lib.hid (below_heap hb3 (heap_lt HBX.out) HBX.out); clear hb3
    have HRX := Lib.hid (below_heap HB3.out (heap_lt H0.out) H0.out)
    clear q0 q1 q2 q3 q4
    have q0 := box_cell HBX3.out (j := 0) rfl
    have q1 := box_cell HBX3.out (j := 1) rfl
    have q2 := box_cell HBX3.out (j := 2) rfl
    have q3 := box_cell HBX3.out (j := 3) rfl
    have q4 := box_cell HBX3.out (j := 4) rfl
    by_cases hts : T = s
    · have e2 : (T.toList == s.toList) = true := beqL_yes hts; have e3 : (T.toList != s.toList) = false := by rw [bne, e2]; rfl
      have HRR := Lib.hid (show prsP s = (⟨set, scr, sty, img, non⟩, true) by rw [HPP.out, if_pos hts]); clear hts HPP
      have y0 := box_cell HRX.out (j := 0) rfl; have x0 := box_frz HRX.out 0
      have y1 := box_cell HRX.out (j := 1) rfl; have x1 := box_frz HRX.out 1
      have y2 := box_cell HRX.out (j := 2) rfl; have x2 := box_frz HRX.out 2
      have y3 := box_cell HRX.out (j := 3) rfl; have x3 := box_frz HRX.out 3
      have y4 := box_cell HRX.out (j := 4) rfl; have x4 := box_frz HRX.out 4
      go_wp2_with fail
      obtain ⟨w9, hw9⟩ : ∃ x, (((((w3.setCell ⟨w.heap.size, 0, none⟩ (.bool set)).setCell ⟨w.heap.size, 1, none⟩ (.slice a1 n1 c1)).setCell ⟨w.heap.size, 2, none⟩ (.slice a2 n2 c2)).setCell ⟨w.heap.size, 3, none⟩ (.slice a3 n3 c3)).setCell ⟨w.heap.size, 4, none⟩ (.string non)) = x := ⟨_, rfl⟩
      rw [hw9]
      have hon : OnlyB [w.heap.size] w3 w9 := by rw [← hw9]; exact set5_only w3 (w.heap.size) _ _ _ _ _
      have hb9 := set5_box HRX.out (.bool set) (.slice a1 n1 c1) (.slice a2 n2 c2) (.slice a3 n3 c3) (.string non)
      rw [show set5 w3 (w.heap.size) (.bool set) (.slice a1 n1 c1) (.slice a2 n2 c2) (.slice a3 n3 c3) (.string non) = w9 from hw9] at hb9
      have r0 := box_cell hb9 (j := 0) rfl
      have r1 := box_cell hb9 (j := 1) rfl
      have r2 := box_cell hb9 (j := 2) rfl
      have r3 := box_cell hb9 (j := 3) rfl
      have r4 := box_cell hb9 (j := 4) rfl
      refine bodyPost_ret (v := .tuple #[.agg #[.bool set, .slice a1 n1 c1, .slice a2 n2 c2, .slice a3 n3 c3, .string non], .bool true]) (by simp [results, Tryd.results53, go_sem, r0, r1, r2, r3, r4]) rfl ?_
      have hbl := (HB0.out.trans (HB3.out.mono HB0.out.size))
      try unfold PrsNew
      try rw [HRR.out]
      refine ⟨a1, n1, c1, a2, n2, c2, a3, n3, c3, rfl, (HO3.out.only hon (fun b hb => by rw [List.mem_singleton] at hb; omega)).low HB0.out.size, ?_⟩
      exact hbl.trans (hon.below (fun i hi => by rw [List.mem_singleton] at hi; omega) hbl.size)
    · have e2 : (T.toList == s.toList) = false := beqL_no hts; have e3 : (T.toList != s.toList) = true := by rw [bne, e2]; rfl
      have HRR := Lib.hid (show prsP s = (polZ, false) by rw [HPP.out, if_neg hts]); clear hts HPP
      have y0 := box_cell HRX.out (j := 0) rfl; have x0 := box_frz HRX.out 0
      have y1 := box_cell HRX.out (j := 1) rfl; have x1 := box_frz HRX.out 1
      have y2 := box_cell HRX.out (j := 2) rfl; have x2 := box_frz HRX.out 2
      have y3 := box_cell HRX.out (j := 3) rfl; have x3 := box_frz HRX.out 3
      have y4 := box_cell HRX.out (j := 4) rfl; have x4 := box_frz HRX.out 4
      go_wp2_with fail
      obtain ⟨w9, hw9⟩ : ∃ x, (((((w3.setCell ⟨w.heap.size, 0, none⟩ (.bool false)).setCell ⟨w.heap.size, 1, none⟩ (.slice none 0 0)).setCell ⟨w.heap.size, 2, none⟩ (.slice none 0 0)).setCell ⟨w.heap.size, 3, none⟩ (.slice none 0 0)).setCell ⟨w.heap.size, 4, none⟩ (.string ⟨#[]⟩)) = x := ⟨_, rfl⟩
      rw [hw9]
      have hon : OnlyB [w.heap.size] w3 w9 := by rw [← hw9]; exact set5_only w3 (w.heap.size) _ _ _ _ _
      have hb9 := set5_box HRX.out (.bool false) (.slice none 0 0) (.slice none 0 0) (.slice none 0 0) (.string ⟨#[]⟩)
      rw [show set5 w3 (w.heap.size) (.bool false) (.slice none 0 0) (.slice none 0 0) (.slice none 0 0) (.string ⟨#[]⟩) = w9 from hw9] at hb9
      have r0 := box_cell hb9 (j := 0) rfl
      have r1 := box_cell hb9 (j := 1) rfl
      have r2 := box_cell hb9 (j := 2) rfl
      have r3 := box_cell hb9 (j := 3) rfl
      have r4 := box_cell hb9 (j := 4) rfl
      refine bodyPost_ret (v := .tuple #[.agg #[.bool false, .slice none 0 0, .slice none 0 0, .slice none 0 0, .string ⟨#[]⟩], .bool false]) (by simp [results, Tryd.results53, go_sem, r0, r1, r2, r3, r4]) rfl ?_
      have hbl := (HB0.out.trans (HB3.out.mono HB0.out.size))
      try unfold PrsNew
      try rw [HRR.out]
      refine ⟨none, 0, 0, none, 0, 0, none, 0, 0, rfl, own3O_zero _ _, ?_⟩
      exact hbl.trans (hon.below (fun i hi => by rw [List.mem_singleton] at hi; omega) hbl.size)

end Go.Proofs.YtpkicliimhflgaaDoor
namespace Go.Proofs.YtpkicliimhflgaaDoor
open Go.ChangeShapes Go.WideShapes Go.ChangeAt Go.RowKit

/-- The narrowed policy in its new box. -/
theorem fin6 {W Wc W1 W2 W3 : World} {p l1 h1 l2 h2 l3 h3 : Nat} {T : TypeId} {z0 z1 z2 z3 z4 u0 u4 v1 v2 v3 : Value} {xs ys zs : List ByteArray} (hp : Wc.heap[p]? = some (.cells #[z0, z1, z2, z3, z4] T (0, 0))) (hpW : W.heap.size ≤ p) (hb : Below W.heap.size W Wc)
    (o1 : OwnK encS 1 9 l1 h1 W1 v1 xs) (k1 : Below W1.heap.size W1 Wc) (o2 : OwnK encS 1 9 l2 h2 W2 v2 ys) (k2 : Below W2.heap.size W2 Wc) (o3 : OwnK encS 1 9 l3 h3 W3 v3 zs) (k3 : Below W3.heap.size W3 Wc)
    (p1 : W.heap.size ≤ l1) (p2 : W.heap.size ≤ l2) (p3 : W.heap.size ≤ l3) (e1 : p < l1 ∨ h1 ≤ p) (e2 : p < l2 ∨ h2 ≤ p) (e3 : p < l3 ∨ h3 ≤ p) (d12 : h1 ≤ l2 ∨ h2 ≤ l1) (d13 : h1 ≤ l3 ∨ h3 ≤ l1) (d23 : h2 ≤ l3 ∨ h3 ≤ l2) :
    W.heap.size ≤ p ∧ (set5 Wc p u0 v1 v2 v3 u4).heap[p]? = some (.cells #[u0, v1, v2, v3, u4] T (0, 0)) ∧ (∀ g, g ∈ blocksL [rwSs v1 xs, rwSs v2 ys, rwSs v3 zs] → g ≠ p) ∧ Own3 W.heap.size (set5 Wc p u0 v1 v2 v3 u4) v1 v2 v3 xs ys zs ∧ Below W.heap.size W (set5 Wc p u0 v1 v2 v3 u4) := by
  have ho := set5_only Wc p u0 v1 v2 v3 u4
  have n : ∀ {lo hi : Nat} {V : World} {v : Value} {us : List ByteArray}, OwnK encS 1 9 lo hi V v us → p < lo ∨ hi ≤ p → ∀ g, v.ownBlock = some g → g ≠ p := fun o he g hg e => by
    have h1 := (o.lt g hg).1; have h2 := o.2 g hg; omega
  have f : ∀ {lo hi : Nat} {V : World} {v : Value} {us : List ByteArray}, OwnK encS 1 9 lo hi V v us → Below V.heap.size V Wc → p < lo ∨ hi ≤ p → OwnK encS 1 9 lo hi (set5 Wc p u0 v1 v2 v3 u4) v us := fun o k he => ownK_only (o.later k) ho fun b hv hm => by
    rw [List.mem_singleton] at hm
    exact n o he b hv hm
  refine ⟨hpW, set5_box hp _ _ _ _ _, fun g hg => ?_, own3_of (f o1 k1 e1) (f o2 k2 e2) (f o3 k3 e3) p1 p2 p3 d12 d13 d23, hb.trans (ho.below (fun i hi => by rw [List.mem_singleton] at hi; omega) hb.size)⟩
  simp only [blocksL, List.append_nil, rwSs_blocks, List.mem_append] at hg
  rcases hg with hg | hg | hg
  · exact n o1 e1 g (by simpa using hg)
  · exact n o2 e2 g (by simpa using hg)
  · exact n o3 e3 g (by simpa using hg)
/-- The same where the box is laid last, with what it holds. -/
theorem fin7 {W Wc W1 W2 W3 : World} {l1 h1 l2 h2 l3 h3 : Nat} {T : TypeId} {u0 u4 v1 v2 v3 : Value} {xs ys zs : List ByteArray} (hb : Below W.heap.size W Wc)
    (o1 : OwnK encS 1 9 l1 h1 W1 v1 xs) (k1 : Below W1.heap.size W1 Wc) (o2 : OwnK encS 1 9 l2 h2 W2 v2 ys) (k2 : Below W2.heap.size W2 Wc) (o3 : OwnK encS 1 9 l3 h3 W3 v3 zs) (k3 : Below W3.heap.size W3 Wc)
    (p1 : W.heap.size ≤ l1) (p2 : W.heap.size ≤ l2) (p3 : W.heap.size ≤ l3) (d12 : h1 ≤ l2 ∨ h2 ≤ l1) (d13 : h1 ≤ l3 ∨ h3 ≤ l1) (d23 : h2 ≤ l3 ∨ h3 ≤ l2) :
    W.heap.size ≤ Wc.heap.size ∧ (Wc.alloc (.cells #[u0, v1, v2, v3, u4] T (0, 0))).heap[Wc.heap.size]? = some (.cells #[u0, v1, v2, v3, u4] T (0, 0)) ∧ (∀ g, g ∈ blocksL [rwSs v1 xs, rwSs v2 ys, rwSs v3 zs] → g ≠ Wc.heap.size) ∧ Own3 W.heap.size (Wc.alloc (.cells #[u0, v1, v2, v3, u4] T (0, 0))) v1 v2 v3 xs ys zs ∧ Below W.heap.size W (Wc.alloc (.cells #[u0, v1, v2, v3, u4] T (0, 0))) := by
  have hbl := (Below.refl Wc.heap.size Wc).alloc (Nat.le_refl _) (.cells #[u0, v1, v2, v3, u4] T (0, 0))
  have n : ∀ {lo hi : Nat} {V : World} {v : Value} {us : List ByteArray}, OwnK encS 1 9 lo hi V v us → Below V.heap.size V Wc → ∀ g, v.ownBlock = some g → g ≠ Wc.heap.size := fun o k g hg e => by
    have h1 := (o.lt g hg).2; have h2 := k.size; omega
  refine ⟨hb.size, hq_nw rfl, fun g hg => ?_, own3_of (o1.later (bl_tr k1 hbl)) (o2.later (bl_tr k2 hbl)) (o3.later (bl_tr k3 hbl)) p1 p2 p3 d12 d13 d23, bl_tr hb hbl⟩
  simp only [blocksL, List.append_nil, rwSs_blocks, List.mem_append] at hg
  rcases hg with hg | hg | hg
  · exact n o1 k1 g (by simpa using hg)
  · exact n o2 k2 g (by simpa using hg)
  · exact n o3 k3 g (by simpa using hg)
theorem lay9 {Q : Prop} {w : World} {c : Nat} (h : w.heap[c]? = some (.cells #[.bool false, .slice none 0 0, .slice none 0 0, .slice none 0 0, .string ⟨#[]⟩] 75 (0, 0)))
    (k : w.cell? ⟨c, 0, none⟩ = some (.bool false) → w.frozen? ⟨c, 0, none⟩ = false → w.cell? ⟨c, 1, none⟩ = some (.slice none 0 0) → w.frozen? ⟨c, 1, none⟩ = false → w.cell? ⟨c, 2, none⟩ = some (.slice none 0 0) → w.frozen? ⟨c, 2, none⟩ = false → w.cell? ⟨c, 3, none⟩ = some (.slice none 0 0) → w.frozen? ⟨c, 3, none⟩ = false → w.cell? ⟨c, 4, none⟩ = some (.string ⟨#[]⟩) → w.frozen? ⟨c, 4, none⟩ = false → Q) : Q :=
  k (box_cell h rfl) (box_frz h 0) (box_cell h rfl) (box_frz h 1) (box_cell h rfl) (box_frz h 2) (box_cell h rfl) (box_frz h 3) (box_cell h rfl) (box_frz h 4)

end Go.Proofs.YtpkicliimhflgaaDoor

/- The walk of the law FnExactDecodeInts: it returns true, and writes nothing that was there. -/
import Derived.Test.YtemoegnijnhigaaDec
import Derived.Test.YtemoegnijnhigaaHelpI
import Derived.Test.YtemoegnijnhigaaRowReads
namespace Go.Proofs.Ytemoegnijnhigaa
open Go.ChangeShapes Go.WideShapes Go.ChangeAt Go.RowKit

set_option maxRecDepth 100000 in
set_option maxHeartbeats 4000000 in
theorem walkDecodeInts (a_b : Option Addr) (len_b cap_b : Nat) (z_b : List Int) (a_o : Int) (a_m : Int) (w : World) (r_b : IsRow .u8 w a_b len_b cap_b z_b) (r_o : (Lit.int .i64 a_o).wf = true) (r_m : (Lit.int .i64 a_m).wf = true) :
    Calls Try.prog 10 #[.slice a_b len_b cap_b, .int .i64 a_o, .int .i64 a_m] w fun e w' => e = .returned (.bool true) ∧ Below w.heap.size w w' := by
  by_cases big_b : (1048576 : Int) < (len_b : Int)
  · go_enter Try.func10, Try.ntmps10
    go_wp2_with fail
    go_ret
    exact ⟨rfl, Below.refl _ _⟩
  obtain ⟨rd_b, rl_b, rw_b⟩ := reads_of_row r_b
  obtain ⟨zs_b, ez_b⟩ : ∃ zs, z_b.take len_b = zs := ⟨_, rfl⟩
  rw [ez_b] at rd_b rl_b rw_b
  have HA_b := Lib.hid rd_b; have HN_b := Lib.hid (show zs_b.length ≤ 1048576 by omega); have HW_b := Lib.hid (bytes_of_wf rw_b)
  clear rd_b rl_b rw_b ez_b r_b z_b
  obtain ⟨lo_o, hi_o⟩ := int_range r_o
  clear r_o
  obtain ⟨lo_m, hi_m⟩ := int_range r_m
  clear r_m
  have HB := Lib.hid (Below.refl w.heap.size w)
  go_enter Try.func10, Try.ntmps10
  obtain ⟨R, hR⟩ : ∃ R, bl (readD zs_b a_o a_m) = R := ⟨_, rfl⟩
  obtain ⟨q1, h1⟩ : ∃ q, bn (readD zs_b a_o a_m) = q := ⟨_, rfl⟩
  obtain ⟨q2, h2⟩ : ∃ q, bb (readD zs_b a_o a_m) = q := ⟨_, rfl⟩
  have HLEN := Lib.hid (show R.length ≤ 1048576 by have h3 := readD_len zs_b a_o a_m; rw [← hR]; omega)
  have HR := Lib.hid hR; have HQ1 := Lib.hid h1; have HQ2 := Lib.hid h2; clear hR h1 h2
  go_wp2_with fail
  refine (to8_any _ w.heap.size _ _ (HA_b.out.below HB.out (Nat.le_refl _)) HB.out.size (by have := HN_b.out; omega)).mono ?_
  rintro e w_1 ⟨v_c, rfl, ho, hb⟩
  have Hc := Lib.hid ho
  have HS1 := Lib.hid (hb.size)
  replace HB := Lib.hid (HB.out.trans (hb.mono HB.out.size))
  clear ho hb
  go_wp2_with fail
  refine (specDec_any _ _ _ _ _ _ Hc.out.reads (Nat.le_refl _) HW_b.out lo_o hi_o (by have := HN_b.out; omega)).mono ?_
  rintro e w_2 ⟨v_w0, he, ho_w0, hb⟩
  rw [HQ1.out, HQ2.out] at he
  rw [HR.out] at ho_w0
  subst he
  replace Hc := Lib.hid (Hc.out.later hb)
  have Hw0 := Lib.hid ho_w0
  have HS2 := Lib.hid (hb.size)
  replace HB := Lib.hid (HB.out.trans (hb.mono HB.out.size))
  clear hb ho_w0
  go_wp2_with fail
  refine (to8_any _ w.heap.size _ _ (HA_b.out.below HB.out (Nat.le_refl _)) HB.out.size (by have := HN_b.out; omega)).mono ?_
  rintro e w_3 ⟨v_x, rfl, ho, hb⟩
  replace Hc := Lib.hid (Hc.out.later hb)
  replace Hw0 := Lib.hid (Hw0.out.later hb)
  have Hx := Lib.hid ho
  have HS3 := Lib.hid (hb.size)
  replace HB := Lib.hid (HB.out.trans (hb.mono HB.out.size))
  clear ho hb
  go_wp2_with fail
  refine (implDec_any _ _ _ _ _ _ Hx.out.reads (Nat.le_refl _) HW_b.out (by have := HN_b.out; omega)).mono ?_
  rintro e w_4 ⟨v_g, he, ho_g, hb⟩
  rw [HQ1.out, HQ2.out] at he
  rw [HR.out] at ho_g
  subst he
  replace Hc := Lib.hid (Hc.out.later hb)
  replace Hw0 := Lib.hid (Hw0.out.later hb)
  replace Hx := Lib.hid (Hx.out.later hb)
  have Hg := Lib.hid ho_g
  have HS4 := Lib.hid (hb.size)
  replace HB := Lib.hid (HB.out.trans (hb.mono HB.out.size))
  clear hb ho_g
  go_wp2_with fail
  refine (eq64_any _ _ _ _ _ _ Hg.out.reads Hw0.out.reads).mono ?_
  rintro e w_5 ⟨rfl, hs⟩
  have hb := hs.below w_4.heap.size
  replace Hc := Lib.hid (Hc.out.later hb)
  replace Hw0 := Lib.hid (Hw0.out.later hb)
  replace Hx := Lib.hid (Hx.out.later hb)
  replace Hg := Lib.hid (Hg.out.later hb)
  have HS5 := Lib.hid (hb.size)
  have HE5 := Lib.hid (congrArg Array.size hs.heap)
  replace HB := Lib.hid (HB.out.trans (hs.below _))
  clear hs hb
  go_wp2_with fail
  refine (to8_any _ w.heap.size _ _ (HA_b.out.below HB.out (Nat.le_refl _)) HB.out.size (by have := HN_b.out; omega)).mono ?_
  rintro e w_6 ⟨v_y, rfl, ho, hb⟩
  replace Hc := Lib.hid (Hc.out.later hb)
  replace Hw0 := Lib.hid (Hw0.out.later hb)
  replace Hx := Lib.hid (Hx.out.later hb)
  replace Hg := Lib.hid (Hg.out.later hb)
  have Hy := Lib.hid ho
  have HS6 := Lib.hid (hb.size)
  replace HB := Lib.hid (HB.out.trans (hb.mono HB.out.size))
  clear ho hb
  go_wp2_with fail
  refine (eq8_any _ _ _ _ _ _ Hx.out.reads Hy.out.reads).mono ?_
  rintro e w_7 ⟨rfl, hs⟩
  have hb := hs.below w_6.heap.size
  replace Hc := Lib.hid (Hc.out.later hb)
  replace Hw0 := Lib.hid (Hw0.out.later hb)
  replace Hx := Lib.hid (Hx.out.later hb)
  replace Hg := Lib.hid (Hg.out.later hb)
  replace Hy := Lib.hid (Hy.out.later hb)
  have HS7 := Lib.hid (hb.size)
  have HE7 := Lib.hid (congrArg Array.size hs.heap)
  replace HB := Lib.hid (HB.out.trans (hs.below _))
  clear hs hb
  go_wp2_with fail
  refine (mark8_any _ _ _ _ (1) _ (by omega) _ Hx.out (by have := HLEN.out; have := HN_b.out; omega)).mono ?_
  rintro e w_8 ⟨rfl, ho, hg⟩
  have hbk := (Hx.out.mono (lo' := w.heap.size) (by have := HS1.out; have := HS2.out; have := HS3.out; have := HS4.out; have := HS5.out; have := HE5.out; have := HS6.out; have := HS7.out; have := HE7.out; omega) (Nat.le_refl _)).back HB.out HB.out.size hg
  replace Hc := Lib.hid (Hc.out.apart Hx.out (Or.inl (by have := HS1.out; have := HS2.out; have := HS3.out; have := HS4.out; have := HS5.out; have := HE5.out; have := HS6.out; have := HS7.out; have := HE7.out; omega)) hg)
  replace Hw0 := Lib.hid (Hw0.out.apart Hx.out (Or.inl (by have := HS1.out; have := HS2.out; have := HS3.out; have := HS4.out; have := HS5.out; have := HE5.out; have := HS6.out; have := HS7.out; have := HE7.out; omega)) hg)
  replace Hg := Lib.hid (Hg.out.apart Hx.out (Or.inr (by have := HS1.out; have := HS2.out; have := HS3.out; have := HS4.out; have := HS5.out; have := HE5.out; have := HS6.out; have := HS7.out; have := HE7.out; omega)) hg)
  replace Hy := Lib.hid (Hy.out.apart Hx.out (Or.inr (by have := HS1.out; have := HS2.out; have := HS3.out; have := HS4.out; have := HS5.out; have := HE5.out; have := HS6.out; have := HS7.out; have := HE7.out; omega)) hg)
  replace Hx := Lib.hid ho
  have HS8 := Lib.hid (hg.size)
  replace HB := Lib.hid hbk
  clear ho hg hbk
  go_wp2_with fail
  refine (eq64_any _ _ _ _ _ _ Hg.out.reads Hw0.out.reads).mono ?_
  rintro e w_9 ⟨rfl, hs⟩
  have hb := hs.below w_8.heap.size
  replace Hc := Lib.hid (Hc.out.later hb)
  replace Hw0 := Lib.hid (Hw0.out.later hb)
  replace Hx := Lib.hid (Hx.out.later hb)
  replace Hg := Lib.hid (Hg.out.later hb)
  replace Hy := Lib.hid (Hy.out.later hb)
  have HS9 := Lib.hid (hb.size)
  have HE9 := Lib.hid (congrArg Array.size hs.heap)
  replace HB := Lib.hid (HB.out.trans (hs.below _))
  clear hs hb
  go_wp2_with fail
  refine (mark64_any _ _ _ _ (1) _ (by omega) _ Hg.out (by have := HLEN.out; have := HN_b.out; omega)).mono ?_
  rintro e w_10 ⟨rfl, ho, hg⟩
  have hbk := (Hg.out.mono (lo' := w.heap.size) (by have := HS1.out; have := HS2.out; have := HS3.out; have := HS4.out; have := HS5.out; have := HE5.out; have := HS6.out; have := HS7.out; have := HE7.out; have := HS8.out; have := HS9.out; have := HE9.out; omega) (Nat.le_refl _)).back HB.out HB.out.size hg
  replace Hc := Lib.hid (Hc.out.apart Hg.out (Or.inl (by have := HS1.out; have := HS2.out; have := HS3.out; have := HS4.out; have := HS5.out; have := HE5.out; have := HS6.out; have := HS7.out; have := HE7.out; have := HS8.out; have := HS9.out; have := HE9.out; omega)) hg)
  replace Hw0 := Lib.hid (Hw0.out.apart Hg.out (Or.inl (by have := HS1.out; have := HS2.out; have := HS3.out; have := HS4.out; have := HS5.out; have := HE5.out; have := HS6.out; have := HS7.out; have := HE7.out; have := HS8.out; have := HS9.out; have := HE9.out; omega)) hg)
  replace Hx := Lib.hid (Hx.out.apart Hg.out (Or.inl (by have := HS1.out; have := HS2.out; have := HS3.out; have := HS4.out; have := HS5.out; have := HE5.out; have := HS6.out; have := HS7.out; have := HE7.out; have := HS8.out; have := HS9.out; have := HE9.out; omega)) hg)
  replace Hy := Lib.hid (Hy.out.apart Hg.out (Or.inr (by have := HS1.out; have := HS2.out; have := HS3.out; have := HS4.out; have := HS5.out; have := HE5.out; have := HS6.out; have := HS7.out; have := HE7.out; have := HS8.out; have := HS9.out; have := HE9.out; omega)) hg)
  replace Hg := Lib.hid ho
  have HS10 := Lib.hid (hg.size)
  replace HB := Lib.hid hbk
  clear ho hg hbk
  go_wp2_with fail
  refine (held64_any _ _ (R.length) (1) _ (by omega) _ Hg.out.reads (by have := HLEN.out; have := HN_b.out; omega)).mono ?_
  rintro e w_11 ⟨rfl, hs⟩
  have hb := hs.below w_10.heap.size
  replace Hc := Lib.hid (Hc.out.later hb)
  replace Hw0 := Lib.hid (Hw0.out.later hb)
  replace Hx := Lib.hid (Hx.out.later hb)
  replace Hg := Lib.hid (Hg.out.later hb)
  replace Hy := Lib.hid (Hy.out.later hb)
  have HS11 := Lib.hid (hb.size)
  have HE11 := Lib.hid (congrArg Array.size hs.heap)
  replace HB := Lib.hid (HB.out.trans (hs.below _))
  clear hs hb
  go_wp2_with fail
  refine (to8_any _ w.heap.size _ _ (HA_b.out.below HB.out (Nat.le_refl _)) HB.out.size (by have := HN_b.out; omega)).mono ?_
  rintro e w_12 ⟨v_z, rfl, ho, hb⟩
  replace Hc := Lib.hid (Hc.out.later hb)
  replace Hw0 := Lib.hid (Hw0.out.later hb)
  replace Hx := Lib.hid (Hx.out.later hb)
  replace Hg := Lib.hid (Hg.out.later hb)
  replace Hy := Lib.hid (Hy.out.later hb)
  have Hz := Lib.hid ho
  have HS12 := Lib.hid (hb.size)
  replace HB := Lib.hid (HB.out.trans (hb.mono HB.out.size))
  clear ho hb
  go_wp2_with fail
  refine (implDec_any _ _ _ _ _ _ Hz.out.reads (Nat.le_refl _) HW_b.out (by have := HN_b.out; omega)).mono ?_
  rintro e w_13 ⟨v_h, he, ho_h, hb⟩
  rw [HQ1.out, HQ2.out] at he
  rw [HR.out] at ho_h
  subst he
  replace Hc := Lib.hid (Hc.out.later hb)
  replace Hw0 := Lib.hid (Hw0.out.later hb)
  replace Hx := Lib.hid (Hx.out.later hb)
  replace Hg := Lib.hid (Hg.out.later hb)
  replace Hy := Lib.hid (Hy.out.later hb)
  replace Hz := Lib.hid (Hz.out.later hb)
  have Hh := Lib.hid ho_h
  have HS13 := Lib.hid (hb.size)
  replace HB := Lib.hid (HB.out.trans (hb.mono HB.out.size))
  clear hb ho_h
  go_wp2_with fail
  refine (eq64_any _ _ _ _ _ _ Hh.out.reads Hw0.out.reads).mono ?_
  rintro e w_14 ⟨rfl, hs⟩
  have hb := hs.below w_13.heap.size
  replace Hc := Lib.hid (Hc.out.later hb)
  replace Hw0 := Lib.hid (Hw0.out.later hb)
  replace Hx := Lib.hid (Hx.out.later hb)
  replace Hg := Lib.hid (Hg.out.later hb)
  replace Hy := Lib.hid (Hy.out.later hb)
  replace Hz := Lib.hid (Hz.out.later hb)
  replace Hh := Lib.hid (Hh.out.later hb)
  have HS14 := Lib.hid (hb.size)
  have HE14 := Lib.hid (congrArg Array.size hs.heap)
  replace HB := Lib.hid (HB.out.trans (hs.below _))
  clear hs hb
  go_wp2_with fail
  refine (held64_any _ _ (R.length) (1) _ (by omega) _ Hg.out.reads (by have := HLEN.out; have := HN_b.out; omega)).mono ?_
  rintro e w_15 ⟨rfl, hs⟩
  have hb := hs.below w_14.heap.size
  replace Hc := Lib.hid (Hc.out.later hb)
  replace Hw0 := Lib.hid (Hw0.out.later hb)
  replace Hx := Lib.hid (Hx.out.later hb)
  replace Hg := Lib.hid (Hg.out.later hb)
  replace Hy := Lib.hid (Hy.out.later hb)
  replace Hz := Lib.hid (Hz.out.later hb)
  replace Hh := Lib.hid (Hh.out.later hb)
  have HS15 := Lib.hid (hb.size)
  have HE15 := Lib.hid (congrArg Array.size hs.heap)
  replace HB := Lib.hid (HB.out.trans (hs.below _))
  clear hs hb
  go_wp2_with fail
  go_ret
  exact ⟨rfl, HB.out⟩
end Go.Proofs.Ytemoegnijnhigaa

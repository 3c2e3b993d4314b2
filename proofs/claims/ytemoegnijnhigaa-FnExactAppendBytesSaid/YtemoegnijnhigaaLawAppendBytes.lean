/- The walk of the law FnExactAppendBytes: it returns true, and writes nothing that was there. -/
import Derived.Test.YtemoegnijnhigaaApp
import Derived.Test.YtemoegnijnhigaaRowReads
namespace Go.Proofs.Ytemoegnijnhigaa
open Go.ChangeShapes Go.WideShapes Go.ChangeAt Go.RowKit

set_option maxRecDepth 100000 in
set_option maxHeartbeats 4000000 in
theorem walkAppendBytes (a_b : Option Addr) (len_b cap_b : Nat) (z_b : List Int) (a_d : Option Addr) (len_d cap_d : Nat) (z_d : List Int) (w : World) (r_b : IsRow .u8 w a_b len_b cap_b z_b) (r_d : IsRow .u8 w a_d len_d cap_d z_d) :
    Calls Try.prog 7 #[.slice a_b len_b cap_b, .slice a_d len_d cap_d] w fun e w' => e = .returned (.bool true) ∧ Below w.heap.size w w' := by
  by_cases big_b : (1048576 : Int) < (len_b : Int)
  · go_enter Try.func7, Try.ntmps7
    go_wp2_with fail
    go_ret
    exact ⟨rfl, Below.refl _ _⟩
  by_cases big_d : (1048576 : Int) < (len_d : Int)
  · go_enter Try.func7, Try.ntmps7
    go_wp2_with fail
    go_ret
    exact ⟨rfl, Below.refl _ _⟩
  obtain ⟨rd_b, rl_b, rw_b⟩ := reads_of_row r_b
  obtain ⟨zs_b, ez_b⟩ : ∃ zs, z_b.take len_b = zs := ⟨_, rfl⟩
  rw [ez_b] at rd_b rl_b rw_b
  have HA_b := Lib.hid rd_b; have HN_b := Lib.hid (show zs_b.length ≤ 1048576 by omega); have HW_b := Lib.hid (bytes_of_wf rw_b)
  clear rd_b rl_b rw_b ez_b r_b z_b
  obtain ⟨rd_d, rl_d, rw_d⟩ := reads_of_row r_d
  obtain ⟨zs_d, ez_d⟩ : ∃ zs, z_d.take len_d = zs := ⟨_, rfl⟩
  rw [ez_d] at rd_d rl_d rw_d
  have HA_d := Lib.hid rd_d; have HN_d := Lib.hid (show zs_d.length ≤ 1048576 by omega); have HW_d := Lib.hid (bytes_of_wf rw_d)
  clear rd_d rl_d rw_d ez_d r_d z_d
  have HB := Lib.hid (Below.refl w.heap.size w)
  go_enter Try.func7, Try.ntmps7
  obtain ⟨R, eR⟩ : ∃ R, zs_b ++ (vint zs_d.length ++ zs_d) = R := ⟨_, rfl⟩
  have HLEN := Lib.hid (show R.length ≤ 2097158 by have h1 := vint_len zs_d.length; have h2 := HN_b.out; have h3 := HN_d.out; rw [← eR, List.length_append, List.length_append]; omega)
  have HR := Lib.hid eR; clear eR
  go_wp2_with fail
  refine (to8_any _ w.heap.size _ _ (HA_b.out.below HB.out (Nat.le_refl _)) HB.out.size (by have := HN_b.out; omega)).mono ?_
  rintro e w_1 ⟨v_c, rfl, ho, hb⟩
  have Hc := Lib.hid ho
  have HS1 := Lib.hid (hb.size)
  replace HB := Lib.hid (HB.out.trans (hb.mono HB.out.size))
  clear ho hb
  go_wp2_with fail
  refine (to8_any _ w.heap.size _ _ (HA_d.out.below HB.out (Nat.le_refl _)) HB.out.size (by have := HN_d.out; omega)).mono ?_
  rintro e w_2 ⟨v_c2, rfl, ho, hb⟩
  replace Hc := Lib.hid (Hc.out.later hb)
  have Hc2 := Lib.hid ho
  have HS2 := Lib.hid (hb.size)
  replace HB := Lib.hid (HB.out.trans (hb.mono HB.out.size))
  clear ho hb
  go_wp2_with fail
  refine (specB_any _ _ _ _ _ _ _ Hc.out.reads (by have := HS1.out; have := HS2.out; omega) (by have := HN_b.out; omega) Hc2.out.reads (Nat.le_refl _) (by have := HN_d.out; omega)).mono ?_
  rintro e w_3 ⟨v_w0, rfl, ho, hb⟩
  replace Hc := Lib.hid (Hc.out.later hb)
  replace Hc2 := Lib.hid (Hc2.out.later hb)
  have Hw0 := Lib.hid ho
  have HS3 := Lib.hid (hb.size)
  replace HB := Lib.hid (HB.out.trans (hb.mono HB.out.size))
  clear ho hb
  rw [HR.out] at Hw0
  go_wp2_with fail
  refine (to8_any _ w.heap.size _ _ (HA_b.out.below HB.out (Nat.le_refl _)) HB.out.size (by have := HN_b.out; omega)).mono ?_
  rintro e w_4 ⟨v_x, rfl, ho, hb⟩
  replace Hc := Lib.hid (Hc.out.later hb)
  replace Hc2 := Lib.hid (Hc2.out.later hb)
  replace Hw0 := Lib.hid (Hw0.out.later hb)
  have Hx := Lib.hid ho
  have HS4 := Lib.hid (hb.size)
  replace HB := Lib.hid (HB.out.trans (hb.mono HB.out.size))
  clear ho hb
  go_wp2_with fail
  refine (to8_any _ w.heap.size _ _ (HA_d.out.below HB.out (Nat.le_refl _)) HB.out.size (by have := HN_d.out; omega)).mono ?_
  rintro e w_5 ⟨v_x2, rfl, ho, hb⟩
  replace Hc := Lib.hid (Hc.out.later hb)
  replace Hc2 := Lib.hid (Hc2.out.later hb)
  replace Hw0 := Lib.hid (Hw0.out.later hb)
  replace Hx := Lib.hid (Hx.out.later hb)
  have Hx2 := Lib.hid ho
  have HS5 := Lib.hid (hb.size)
  replace HB := Lib.hid (HB.out.trans (hb.mono HB.out.size))
  clear ho hb
  go_wp2_with fail
  refine (implB_any _ _ _ _ _ _ _ Hx.out.reads (by have := HS1.out; have := HS2.out; have := HS3.out; have := HS4.out; have := HS5.out; omega) (by have := HN_b.out; omega) Hx2.out.reads (Nat.le_refl _) (by have := HN_d.out; omega)).mono ?_
  rintro e w_6 ⟨v_g, rfl, ho, hb⟩
  replace Hc := Lib.hid (Hc.out.later hb)
  replace Hc2 := Lib.hid (Hc2.out.later hb)
  replace Hw0 := Lib.hid (Hw0.out.later hb)
  replace Hx := Lib.hid (Hx.out.later hb)
  replace Hx2 := Lib.hid (Hx2.out.later hb)
  have Hg := Lib.hid ho
  have HS6 := Lib.hid (hb.size)
  replace HB := Lib.hid (HB.out.trans (hb.mono HB.out.size))
  clear ho hb
  rw [HR.out] at Hg
  go_wp2_with fail
  refine (eq8_any _ _ _ _ _ _ Hg.out.reads Hw0.out.reads).mono ?_
  rintro e w_7 ⟨rfl, hs⟩
  have hb := hs.below w_6.heap.size
  replace Hc := Lib.hid (Hc.out.later hb)
  replace Hc2 := Lib.hid (Hc2.out.later hb)
  replace Hw0 := Lib.hid (Hw0.out.later hb)
  replace Hx := Lib.hid (Hx.out.later hb)
  replace Hx2 := Lib.hid (Hx2.out.later hb)
  replace Hg := Lib.hid (Hg.out.later hb)
  have HS7 := Lib.hid (hb.size)
  have HE7 := Lib.hid (congrArg Array.size hs.heap)
  replace HB := Lib.hid (HB.out.trans (hs.below _))
  clear hs hb
  go_wp2_with fail
  refine (to8_any _ w.heap.size _ _ (HA_b.out.below HB.out (Nat.le_refl _)) HB.out.size (by have := HN_b.out; omega)).mono ?_
  rintro e w_8 ⟨v_y, rfl, ho, hb⟩
  replace Hc := Lib.hid (Hc.out.later hb)
  replace Hc2 := Lib.hid (Hc2.out.later hb)
  replace Hw0 := Lib.hid (Hw0.out.later hb)
  replace Hx := Lib.hid (Hx.out.later hb)
  replace Hx2 := Lib.hid (Hx2.out.later hb)
  replace Hg := Lib.hid (Hg.out.later hb)
  have Hy := Lib.hid ho
  have HS8 := Lib.hid (hb.size)
  replace HB := Lib.hid (HB.out.trans (hb.mono HB.out.size))
  clear ho hb
  go_wp2_with fail
  refine (eq8_any _ _ _ _ _ _ Hx.out.reads Hy.out.reads).mono ?_
  rintro e w_9 ⟨rfl, hs⟩
  have hb := hs.below w_8.heap.size
  replace Hc := Lib.hid (Hc.out.later hb)
  replace Hc2 := Lib.hid (Hc2.out.later hb)
  replace Hw0 := Lib.hid (Hw0.out.later hb)
  replace Hx := Lib.hid (Hx.out.later hb)
  replace Hx2 := Lib.hid (Hx2.out.later hb)
  replace Hg := Lib.hid (Hg.out.later hb)
  replace Hy := Lib.hid (Hy.out.later hb)
  have HS9 := Lib.hid (hb.size)
  have HE9 := Lib.hid (congrArg Array.size hs.heap)
  replace HB := Lib.hid (HB.out.trans (hs.below _))
  clear hs hb
  go_wp2_with fail
  refine (to8_any _ w.heap.size _ _ (HA_d.out.below HB.out (Nat.le_refl _)) HB.out.size (by have := HN_d.out; omega)).mono ?_
  rintro e w_10 ⟨v_y2, rfl, ho, hb⟩
  replace Hc := Lib.hid (Hc.out.later hb)
  replace Hc2 := Lib.hid (Hc2.out.later hb)
  replace Hw0 := Lib.hid (Hw0.out.later hb)
  replace Hx := Lib.hid (Hx.out.later hb)
  replace Hx2 := Lib.hid (Hx2.out.later hb)
  replace Hg := Lib.hid (Hg.out.later hb)
  replace Hy := Lib.hid (Hy.out.later hb)
  have Hy2 := Lib.hid ho
  have HS10 := Lib.hid (hb.size)
  replace HB := Lib.hid (HB.out.trans (hb.mono HB.out.size))
  clear ho hb
  go_wp2_with fail
  refine (eq8_any _ _ _ _ _ _ Hx2.out.reads Hy2.out.reads).mono ?_
  rintro e w_11 ⟨rfl, hs⟩
  have hb := hs.below w_10.heap.size
  replace Hc := Lib.hid (Hc.out.later hb)
  replace Hc2 := Lib.hid (Hc2.out.later hb)
  replace Hw0 := Lib.hid (Hw0.out.later hb)
  replace Hx := Lib.hid (Hx.out.later hb)
  replace Hx2 := Lib.hid (Hx2.out.later hb)
  replace Hg := Lib.hid (Hg.out.later hb)
  replace Hy := Lib.hid (Hy.out.later hb)
  replace Hy2 := Lib.hid (Hy2.out.later hb)
  have HS11 := Lib.hid (hb.size)
  have HE11 := Lib.hid (congrArg Array.size hs.heap)
  replace HB := Lib.hid (HB.out.trans (hs.below _))
  clear hs hb
  go_wp2_with fail
  refine (mark8_any _ _ _ _ (1) _ (by omega) _ Hx.out (by have := HLEN.out; have := HN_b.out; have := HN_d.out; omega)).mono ?_
  rintro e w_12 ⟨rfl, ho, hg⟩
  have hbk := (Hx.out.mono (lo' := w.heap.size) (by have := HS1.out; have := HS2.out; have := HS3.out; have := HS4.out; have := HS5.out; have := HS6.out; have := HS7.out; have := HE7.out; have := HS8.out; have := HS9.out; have := HE9.out; have := HS10.out; have := HS11.out; have := HE11.out; omega) (Nat.le_refl _)).back HB.out HB.out.size hg
  replace Hc := Lib.hid (Hc.out.apart Hx.out (Or.inl (by have := HS1.out; have := HS2.out; have := HS3.out; have := HS4.out; have := HS5.out; have := HS6.out; have := HS7.out; have := HE7.out; have := HS8.out; have := HS9.out; have := HE9.out; have := HS10.out; have := HS11.out; have := HE11.out; omega)) hg)
  replace Hc2 := Lib.hid (Hc2.out.apart Hx.out (Or.inl (by have := HS1.out; have := HS2.out; have := HS3.out; have := HS4.out; have := HS5.out; have := HS6.out; have := HS7.out; have := HE7.out; have := HS8.out; have := HS9.out; have := HE9.out; have := HS10.out; have := HS11.out; have := HE11.out; omega)) hg)
  replace Hw0 := Lib.hid (Hw0.out.apart Hx.out (Or.inl (by have := HS1.out; have := HS2.out; have := HS3.out; have := HS4.out; have := HS5.out; have := HS6.out; have := HS7.out; have := HE7.out; have := HS8.out; have := HS9.out; have := HE9.out; have := HS10.out; have := HS11.out; have := HE11.out; omega)) hg)
  replace Hx2 := Lib.hid (Hx2.out.apart Hx.out (Or.inr (by have := HS1.out; have := HS2.out; have := HS3.out; have := HS4.out; have := HS5.out; have := HS6.out; have := HS7.out; have := HE7.out; have := HS8.out; have := HS9.out; have := HE9.out; have := HS10.out; have := HS11.out; have := HE11.out; omega)) hg)
  replace Hg := Lib.hid (Hg.out.apart Hx.out (Or.inr (by have := HS1.out; have := HS2.out; have := HS3.out; have := HS4.out; have := HS5.out; have := HS6.out; have := HS7.out; have := HE7.out; have := HS8.out; have := HS9.out; have := HE9.out; have := HS10.out; have := HS11.out; have := HE11.out; omega)) hg)
  replace Hy := Lib.hid (Hy.out.apart Hx.out (Or.inr (by have := HS1.out; have := HS2.out; have := HS3.out; have := HS4.out; have := HS5.out; have := HS6.out; have := HS7.out; have := HE7.out; have := HS8.out; have := HS9.out; have := HE9.out; have := HS10.out; have := HS11.out; have := HE11.out; omega)) hg)
  replace Hy2 := Lib.hid (Hy2.out.apart Hx.out (Or.inr (by have := HS1.out; have := HS2.out; have := HS3.out; have := HS4.out; have := HS5.out; have := HS6.out; have := HS7.out; have := HE7.out; have := HS8.out; have := HS9.out; have := HE9.out; have := HS10.out; have := HS11.out; have := HE11.out; omega)) hg)
  replace Hx := Lib.hid ho
  have HS12 := Lib.hid (hg.size)
  replace HB := Lib.hid hbk
  clear ho hg hbk
  go_wp2_with fail
  refine (mark8_any _ _ _ _ (1 + zs_b.length) _ (by omega) _ Hx2.out (by have := HLEN.out; have := HN_b.out; have := HN_d.out; omega)).mono ?_
  rintro e w_13 ⟨rfl, ho, hg⟩
  have hbk := (Hx2.out.mono (lo' := w.heap.size) (by have := HS1.out; have := HS2.out; have := HS3.out; have := HS4.out; have := HS5.out; have := HS6.out; have := HS7.out; have := HE7.out; have := HS8.out; have := HS9.out; have := HE9.out; have := HS10.out; have := HS11.out; have := HE11.out; have := HS12.out; omega) (Nat.le_refl _)).back HB.out HB.out.size hg
  replace Hc := Lib.hid (Hc.out.apart Hx2.out (Or.inl (by have := HS1.out; have := HS2.out; have := HS3.out; have := HS4.out; have := HS5.out; have := HS6.out; have := HS7.out; have := HE7.out; have := HS8.out; have := HS9.out; have := HE9.out; have := HS10.out; have := HS11.out; have := HE11.out; have := HS12.out; omega)) hg)
  replace Hc2 := Lib.hid (Hc2.out.apart Hx2.out (Or.inl (by have := HS1.out; have := HS2.out; have := HS3.out; have := HS4.out; have := HS5.out; have := HS6.out; have := HS7.out; have := HE7.out; have := HS8.out; have := HS9.out; have := HE9.out; have := HS10.out; have := HS11.out; have := HE11.out; have := HS12.out; omega)) hg)
  replace Hw0 := Lib.hid (Hw0.out.apart Hx2.out (Or.inl (by have := HS1.out; have := HS2.out; have := HS3.out; have := HS4.out; have := HS5.out; have := HS6.out; have := HS7.out; have := HE7.out; have := HS8.out; have := HS9.out; have := HE9.out; have := HS10.out; have := HS11.out; have := HE11.out; have := HS12.out; omega)) hg)
  replace Hx := Lib.hid (Hx.out.apart Hx2.out (Or.inl (by have := HS1.out; have := HS2.out; have := HS3.out; have := HS4.out; have := HS5.out; have := HS6.out; have := HS7.out; have := HE7.out; have := HS8.out; have := HS9.out; have := HE9.out; have := HS10.out; have := HS11.out; have := HE11.out; have := HS12.out; omega)) hg)
  replace Hg := Lib.hid (Hg.out.apart Hx2.out (Or.inr (by have := HS1.out; have := HS2.out; have := HS3.out; have := HS4.out; have := HS5.out; have := HS6.out; have := HS7.out; have := HE7.out; have := HS8.out; have := HS9.out; have := HE9.out; have := HS10.out; have := HS11.out; have := HE11.out; have := HS12.out; omega)) hg)
  replace Hy := Lib.hid (Hy.out.apart Hx2.out (Or.inr (by have := HS1.out; have := HS2.out; have := HS3.out; have := HS4.out; have := HS5.out; have := HS6.out; have := HS7.out; have := HE7.out; have := HS8.out; have := HS9.out; have := HE9.out; have := HS10.out; have := HS11.out; have := HE11.out; have := HS12.out; omega)) hg)
  replace Hy2 := Lib.hid (Hy2.out.apart Hx2.out (Or.inr (by have := HS1.out; have := HS2.out; have := HS3.out; have := HS4.out; have := HS5.out; have := HS6.out; have := HS7.out; have := HE7.out; have := HS8.out; have := HS9.out; have := HE9.out; have := HS10.out; have := HS11.out; have := HE11.out; have := HS12.out; omega)) hg)
  replace Hx2 := Lib.hid ho
  have HS13 := Lib.hid (hg.size)
  replace HB := Lib.hid hbk
  clear ho hg hbk
  go_wp2_with fail
  refine (eq8_any _ _ _ _ _ _ Hg.out.reads Hw0.out.reads).mono ?_
  rintro e w_14 ⟨rfl, hs⟩
  have hb := hs.below w_13.heap.size
  replace Hc := Lib.hid (Hc.out.later hb)
  replace Hc2 := Lib.hid (Hc2.out.later hb)
  replace Hw0 := Lib.hid (Hw0.out.later hb)
  replace Hx := Lib.hid (Hx.out.later hb)
  replace Hx2 := Lib.hid (Hx2.out.later hb)
  replace Hg := Lib.hid (Hg.out.later hb)
  replace Hy := Lib.hid (Hy.out.later hb)
  replace Hy2 := Lib.hid (Hy2.out.later hb)
  have HS14 := Lib.hid (hb.size)
  have HE14 := Lib.hid (congrArg Array.size hs.heap)
  replace HB := Lib.hid (HB.out.trans (hs.below _))
  clear hs hb
  go_wp2_with fail
  refine (mark8_any _ _ _ _ (1) _ (by omega) _ Hg.out (by have := HLEN.out; have := HN_b.out; have := HN_d.out; omega)).mono ?_
  rintro e w_15 ⟨rfl, ho, hg⟩
  have hbk := (Hg.out.mono (lo' := w.heap.size) (by have := HS1.out; have := HS2.out; have := HS3.out; have := HS4.out; have := HS5.out; have := HS6.out; have := HS7.out; have := HE7.out; have := HS8.out; have := HS9.out; have := HE9.out; have := HS10.out; have := HS11.out; have := HE11.out; have := HS12.out; have := HS13.out; have := HS14.out; have := HE14.out; omega) (Nat.le_refl _)).back HB.out HB.out.size hg
  replace Hc := Lib.hid (Hc.out.apart Hg.out (Or.inl (by have := HS1.out; have := HS2.out; have := HS3.out; have := HS4.out; have := HS5.out; have := HS6.out; have := HS7.out; have := HE7.out; have := HS8.out; have := HS9.out; have := HE9.out; have := HS10.out; have := HS11.out; have := HE11.out; have := HS12.out; have := HS13.out; have := HS14.out; have := HE14.out; omega)) hg)
  replace Hc2 := Lib.hid (Hc2.out.apart Hg.out (Or.inl (by have := HS1.out; have := HS2.out; have := HS3.out; have := HS4.out; have := HS5.out; have := HS6.out; have := HS7.out; have := HE7.out; have := HS8.out; have := HS9.out; have := HE9.out; have := HS10.out; have := HS11.out; have := HE11.out; have := HS12.out; have := HS13.out; have := HS14.out; have := HE14.out; omega)) hg)
  replace Hw0 := Lib.hid (Hw0.out.apart Hg.out (Or.inl (by have := HS1.out; have := HS2.out; have := HS3.out; have := HS4.out; have := HS5.out; have := HS6.out; have := HS7.out; have := HE7.out; have := HS8.out; have := HS9.out; have := HE9.out; have := HS10.out; have := HS11.out; have := HE11.out; have := HS12.out; have := HS13.out; have := HS14.out; have := HE14.out; omega)) hg)
  replace Hx := Lib.hid (Hx.out.apart Hg.out (Or.inl (by have := HS1.out; have := HS2.out; have := HS3.out; have := HS4.out; have := HS5.out; have := HS6.out; have := HS7.out; have := HE7.out; have := HS8.out; have := HS9.out; have := HE9.out; have := HS10.out; have := HS11.out; have := HE11.out; have := HS12.out; have := HS13.out; have := HS14.out; have := HE14.out; omega)) hg)
  replace Hx2 := Lib.hid (Hx2.out.apart Hg.out (Or.inl (by have := HS1.out; have := HS2.out; have := HS3.out; have := HS4.out; have := HS5.out; have := HS6.out; have := HS7.out; have := HE7.out; have := HS8.out; have := HS9.out; have := HE9.out; have := HS10.out; have := HS11.out; have := HE11.out; have := HS12.out; have := HS13.out; have := HS14.out; have := HE14.out; omega)) hg)
  replace Hy := Lib.hid (Hy.out.apart Hg.out (Or.inr (by have := HS1.out; have := HS2.out; have := HS3.out; have := HS4.out; have := HS5.out; have := HS6.out; have := HS7.out; have := HE7.out; have := HS8.out; have := HS9.out; have := HE9.out; have := HS10.out; have := HS11.out; have := HE11.out; have := HS12.out; have := HS13.out; have := HS14.out; have := HE14.out; omega)) hg)
  replace Hy2 := Lib.hid (Hy2.out.apart Hg.out (Or.inr (by have := HS1.out; have := HS2.out; have := HS3.out; have := HS4.out; have := HS5.out; have := HS6.out; have := HS7.out; have := HE7.out; have := HS8.out; have := HS9.out; have := HE9.out; have := HS10.out; have := HS11.out; have := HE11.out; have := HS12.out; have := HS13.out; have := HS14.out; have := HE14.out; omega)) hg)
  replace Hg := Lib.hid ho
  have HS15 := Lib.hid (hg.size)
  replace HB := Lib.hid hbk
  clear ho hg hbk
  go_wp2_with fail
  refine (held8_any _ _ (R.length) (1) _ (by omega) _ Hg.out.reads (by have := HLEN.out; have := HN_b.out; have := HN_d.out; omega)).mono ?_
  rintro e w_16 ⟨rfl, hs⟩
  have hb := hs.below w_15.heap.size
  replace Hc := Lib.hid (Hc.out.later hb)
  replace Hc2 := Lib.hid (Hc2.out.later hb)
  replace Hw0 := Lib.hid (Hw0.out.later hb)
  replace Hx := Lib.hid (Hx.out.later hb)
  replace Hx2 := Lib.hid (Hx2.out.later hb)
  replace Hg := Lib.hid (Hg.out.later hb)
  replace Hy := Lib.hid (Hy.out.later hb)
  replace Hy2 := Lib.hid (Hy2.out.later hb)
  have HS16 := Lib.hid (hb.size)
  have HE16 := Lib.hid (congrArg Array.size hs.heap)
  replace HB := Lib.hid (HB.out.trans (hs.below _))
  clear hs hb
  go_wp2_with fail
  refine (to8_any _ w.heap.size _ _ (HA_b.out.below HB.out (Nat.le_refl _)) HB.out.size (by have := HN_b.out; omega)).mono ?_
  rintro e w_17 ⟨v_z, rfl, ho, hb⟩
  replace Hc := Lib.hid (Hc.out.later hb)
  replace Hc2 := Lib.hid (Hc2.out.later hb)
  replace Hw0 := Lib.hid (Hw0.out.later hb)
  replace Hx := Lib.hid (Hx.out.later hb)
  replace Hx2 := Lib.hid (Hx2.out.later hb)
  replace Hg := Lib.hid (Hg.out.later hb)
  replace Hy := Lib.hid (Hy.out.later hb)
  replace Hy2 := Lib.hid (Hy2.out.later hb)
  have Hz := Lib.hid ho
  have HS17 := Lib.hid (hb.size)
  replace HB := Lib.hid (HB.out.trans (hb.mono HB.out.size))
  clear ho hb
  go_wp2_with fail
  refine (to8_any _ w.heap.size _ _ (HA_d.out.below HB.out (Nat.le_refl _)) HB.out.size (by have := HN_d.out; omega)).mono ?_
  rintro e w_18 ⟨v_z2, rfl, ho, hb⟩
  replace Hc := Lib.hid (Hc.out.later hb)
  replace Hc2 := Lib.hid (Hc2.out.later hb)
  replace Hw0 := Lib.hid (Hw0.out.later hb)
  replace Hx := Lib.hid (Hx.out.later hb)
  replace Hx2 := Lib.hid (Hx2.out.later hb)
  replace Hg := Lib.hid (Hg.out.later hb)
  replace Hy := Lib.hid (Hy.out.later hb)
  replace Hy2 := Lib.hid (Hy2.out.later hb)
  replace Hz := Lib.hid (Hz.out.later hb)
  have Hz2 := Lib.hid ho
  have HS18 := Lib.hid (hb.size)
  replace HB := Lib.hid (HB.out.trans (hb.mono HB.out.size))
  clear ho hb
  go_wp2_with fail
  refine (implB_any _ _ _ _ _ _ _ Hz.out.reads (by have := HS1.out; have := HS2.out; have := HS3.out; have := HS4.out; have := HS5.out; have := HS6.out; have := HS7.out; have := HE7.out; have := HS8.out; have := HS9.out; have := HE9.out; have := HS10.out; have := HS11.out; have := HE11.out; have := HS12.out; have := HS13.out; have := HS14.out; have := HE14.out; have := HS15.out; have := HS16.out; have := HE16.out; have := HS17.out; have := HS18.out; omega) (by have := HN_b.out; omega) Hz2.out.reads (Nat.le_refl _) (by have := HN_d.out; omega)).mono ?_
  rintro e w_19 ⟨v_h, rfl, ho, hb⟩
  replace Hc := Lib.hid (Hc.out.later hb)
  replace Hc2 := Lib.hid (Hc2.out.later hb)
  replace Hw0 := Lib.hid (Hw0.out.later hb)
  replace Hx := Lib.hid (Hx.out.later hb)
  replace Hx2 := Lib.hid (Hx2.out.later hb)
  replace Hg := Lib.hid (Hg.out.later hb)
  replace Hy := Lib.hid (Hy.out.later hb)
  replace Hy2 := Lib.hid (Hy2.out.later hb)
  replace Hz := Lib.hid (Hz.out.later hb)
  replace Hz2 := Lib.hid (Hz2.out.later hb)
  have Hh := Lib.hid ho
  have HS19 := Lib.hid (hb.size)
  replace HB := Lib.hid (HB.out.trans (hb.mono HB.out.size))
  clear ho hb
  rw [HR.out] at Hh
  go_wp2_with fail
  refine (eq8_any _ _ _ _ _ _ Hh.out.reads Hw0.out.reads).mono ?_
  rintro e w_20 ⟨rfl, hs⟩
  have hb := hs.below w_19.heap.size
  replace Hc := Lib.hid (Hc.out.later hb)
  replace Hc2 := Lib.hid (Hc2.out.later hb)
  replace Hw0 := Lib.hid (Hw0.out.later hb)
  replace Hx := Lib.hid (Hx.out.later hb)
  replace Hx2 := Lib.hid (Hx2.out.later hb)
  replace Hg := Lib.hid (Hg.out.later hb)
  replace Hy := Lib.hid (Hy.out.later hb)
  replace Hy2 := Lib.hid (Hy2.out.later hb)
  replace Hz := Lib.hid (Hz.out.later hb)
  replace Hz2 := Lib.hid (Hz2.out.later hb)
  replace Hh := Lib.hid (Hh.out.later hb)
  have HS20 := Lib.hid (hb.size)
  have HE20 := Lib.hid (congrArg Array.size hs.heap)
  replace HB := Lib.hid (HB.out.trans (hs.below _))
  clear hs hb
  go_wp2_with fail
  refine (held8_any _ _ (R.length) (1) _ (by omega) _ Hg.out.reads (by have := HLEN.out; have := HN_b.out; have := HN_d.out; omega)).mono ?_
  rintro e w_21 ⟨rfl, hs⟩
  have hb := hs.below w_20.heap.size
  replace Hc := Lib.hid (Hc.out.later hb)
  replace Hc2 := Lib.hid (Hc2.out.later hb)
  replace Hw0 := Lib.hid (Hw0.out.later hb)
  replace Hx := Lib.hid (Hx.out.later hb)
  replace Hx2 := Lib.hid (Hx2.out.later hb)
  replace Hg := Lib.hid (Hg.out.later hb)
  replace Hy := Lib.hid (Hy.out.later hb)
  replace Hy2 := Lib.hid (Hy2.out.later hb)
  replace Hz := Lib.hid (Hz.out.later hb)
  replace Hz2 := Lib.hid (Hz2.out.later hb)
  replace Hh := Lib.hid (Hh.out.later hb)
  have HS21 := Lib.hid (hb.size)
  have HE21 := Lib.hid (congrArg Array.size hs.heap)
  replace HB := Lib.hid (HB.out.trans (hs.below _))
  clear hs hb
  go_wp2_with fail
  go_ret
  exact ⟨rfl, HB.out⟩
end Go.Proofs.Ytemoegnijnhigaa
